/-
  What slices.Insert answers at properties, and that the caller's other blocks stay. Conditions: the list is the call's own; lengths fit.
-/
import Derived.Test.YthpplhhlhheopabDoorDzF
namespace Go.Proofs.YthpplhhlhheopabDoor
open Go.RowKit
open S2 (BK Put)

/-- the blocks that are not the list's own stay, and do not become its own -/
def InsF (W : World) (v : Value) (w' : World) (v' : Value) : Prop := ∀ b, b < W.heap.size → v.ownBlock ≠ some b → w'.heap[b]? = W.heap[b]? ∧ v'.ownBlock ≠ some b
set_option maxHeartbeats 2000000 in
theorem insert_endK (v : Value) (xs : List PR) (x : PR) (W : World) (B vb : Nat) (hown : OwnP W B v xs) (hvb : VB W vb x) (hB : B ≤ W.heap.size) (hn : xs.length ≤ 100000) :
    Calls Tryd.prog 52 #[v, .int .i64 xs.length, .slice (some ⟨vb, 0, none⟩) 1 1] W fun e w' => ∃ v', e = .returned v' ∧ OwnP w' B v' (xs ++ [x]) ∧ Below B W w' ∧ InsF W v w' v' := by
  have HS := Lib.hid (GL.src gP_len gP_one hvb.gl Tryd.underlying24 1)
  have HO := Lib.hid hown
  obtain ⟨A, c, rfl, hlc, _⟩ := OwnG.ret gP_len hown
  have HB := Lib.hid (Below.refl B W)
  have hcut : ∀ w, (Instr.slice 24 (.slice A xs.length c) (some (.int .i64 (xs.length : Int))) none none).run Tryd.prog w = .ok (sliced A xs.length xs.length c 2) w := fun w => by
    rw [run_slice_l (P := Tryd.prog) w 24 _ xs.length c undP .i64 xs.length (by omega) (by omega), sizeOfP]
    rfl
  generalize sliced A xs.length xs.length c 2 = sl at hcut
  clear hown hvb hlc
  go_enter Tryd.func52, Tryd.ntmps52
  go_wp2_with (at_builtin; refine wpList_plain rfl fun _ hK => oper_appG (g := gP) (k := 2) (e := 35) (by decide) _ _ 24 24 rfl (.agg #[.string ByteArray.empty, .string ByteArray.empty]) 32 Tryd.underlying24 infoP rfl (by decide) B _ xs [x] _ rfl HO.out rfl HS.out hB (by simp; omega) ?_; intro v' w' hown' hgr hoff; refine hK _ _ ?_)
  go_ret
  exact ⟨_, rfl, hown', Below.grow HB.out HO.out hgr hB (Nat.le_refl _), fun b hb hne => ⟨hgr.block b hb (fun e => hne e.symm), hoff b hb hne⟩⟩

set_option maxHeartbeats 4000000 in
theorem insert_shiftK (q n cap : Nat) (cur : Array Value) (xs : List PR) (i : Nat) (x : PR) (W : World) (B vb : Nat) (hq : W.heap[q]? = some (.cells cur 35 (0, 0))) (hnl : xs.length = n) (hi : i < n) (hroom : n + 1 ≤ cap) (hcap : cap ≤ maxLen)
    (hcs : cur.size = cap * 2) (htake : cur.toList.take (n * 2) = xs.flatMap gP) (hvb : VB W vb x) (hne : vb ≠ q) (hBq : B ≤ q) :
    Calls Tryd.prog 52 #[.slice (some ⟨q, 0, none⟩) n cap, .int .i64 i, .slice (some ⟨vb, 0, none⟩) 1 1] W fun e w' => ∃ v', e = .returned v' ∧ OwnP w' B v' (insP xs i x) ∧ Below B W w' ∧ InsF W (.slice (some ⟨q, 0, none⟩) n cap) w' v' := by
  have hov := run_overP W q vb cur x hq (by omega) hvb hne
  have hL : (xs.flatMap gP).length = n * 2 := by rw [flat_len gP_len, hnl]
  obtain ⟨s1, s2, s3⟩ := ins_shift cur.toList (xs.flatMap gP) (gP x) n i cap hi hroom (by simpa using hcs) hL htake rfl
  have hins := ins_flat xs i x (by omega)
  have hil := ins_len xs i x (by omega)
  have h1L : ∀ u ∈ xs.flatMap gP, u.oneCell' = true := fun u hu => by
    obtain ⟨y, _, hy⟩ := List.mem_flatMap.1 hu
    exact gP_one y u hy
  have hcell : ∀ j u, (xs.flatMap gP)[j]? = some u → W.cell? ⟨q, j, none⟩ = some u := fun j u hj => by
    rw [cells_at hq, ← Array.getElem?_toList]
    rw [← htake, List.getElem?_take] at hj
    split at hj
    · exact hj
    · cases hj
  generalize xs.flatMap gP = L at hL s1 s2 s3 hins h1L hcell htake
  have hdl : (L.drop (i * 2)).length = (n - i) * 2 := by rw [List.length_drop, hL]; omega
  unfold maxLen at hcap
  obtain ⟨W1, hW1⟩ : ∃ W1, W1 = W.drew.setRow q (cur.toList.take ((i + 1) * 2) ++ L.drop (i * 2) ++ cur.toList.drop ((i + 1) * 2 + (L.drop (i * 2)).length)).toArray := ⟨_, rfl⟩
  have hcp1 : ∀ ty dc sc, (Builtin.copy_ #[24, 24] ty #[.slice (some ⟨q, (i + 1) * 2, none⟩) (n - i) dc, .slice (some ⟨q, i * 2, none⟩) (n + 1 - i) sc]).run Tryd.prog W.drew = .ok (goInt ((n - i : Nat) : Int)) W1 := fun ty dc sc => by
    rw [hW1]
    exact run_copy_rowK W.drew _ _ ty 35 2 q _ _ dc ⟨q, i * 2, none⟩ _ sc cur 35 (L.drop (i * 2)) (n - i) Tryd.underlying24 sizeP hq (by simp only [Nat.min_def]; split <;> omega) hdl
      (fun j u hj => by rw [Addr.add_lit]; exact hcell _ u (by rwa [List.getElem?_drop] at hj)) (by rw [hdl, hcs]; omega) (fun u hu => h1L u (List.mem_of_mem_drop hu))
  have hq1 : W1.heap[q]? = some (.cells (cur.toList.take ((i + 1) * 2) ++ L.drop (i * 2) ++ cur.toList.drop ((i + 1) * 2 + (L.drop (i * 2)).length)).toArray 35 (0, 0)) := by rw [hW1]; exact setRow_heap W.drew q _ _ _ _ hq
  have hvb1 : VB W1 vb x := by rw [hW1]; exact VB.setRow (show VB W.drew vb x from hvb) hne _
  have hb1 : Below B W W1 := by rw [hW1]; exact below_setRow ((Below.refl _ _).drew) hBq _
  have hf1 : ∀ b, b ≠ q → W1.heap[b]? = W.heap[b]? := fun b hb => by rw [hW1]; exact setRow_other W.drew q b _ hb
  clear hW1
  generalize cur.toList.take ((i + 1) * 2) ++ L.drop (i * 2) ++ cur.toList.drop ((i + 1) * 2 + (L.drop (i * 2)).length) = C1 at hq1 s1 s2 s3
  obtain ⟨W2, hW2⟩ : ∃ W2, W2 = W1.setRow q (C1.take (i * 2) ++ gP x ++ C1.drop (i * 2 + (gP x).length)).toArray := ⟨_, rfl⟩
  have hcp2 : ∀ ty dc, (Builtin.copy_ #[24, 24] ty #[.slice (some ⟨q, i * 2, none⟩) (n + 1 - i) dc, .slice (some ⟨vb, 0, none⟩) 1 1]).run Tryd.prog W1 = .ok (goInt ((1 : Nat) : Int)) W2 := fun ty dc => by
    rw [hW2]
    exact run_copy_rowK W1 _ _ ty 35 2 q (i * 2) (n + 1 - i) dc ⟨vb, 0, none⟩ 1 1 C1.toArray 35 (gP x) 1 Tryd.underlying24 sizeP hq1 (by simp only [Nat.min_def]; split <;> omega) rfl
      (fun j u hj => by rw [Addr.add_lit, Nat.zero_add]; exact hvb1.cell j u hj) (by rw [List.size_toArray, s1]; show i * 2 + 2 ≤ cap * 2; omega) (gP_one x)
  have hq2 : W2.heap[q]? = some (.cells (C1.take (i * 2) ++ gP x ++ C1.drop (i * 2 + (gP x).length)).toArray 35 (0, 0)) := by rw [hW2]; exact setRow_heap W1 q _ _ _ _ hq1
  have hb2 : Below B W W2 := by rw [hW2]; exact below_setRow hb1 hBq _
  have HF2 : Hid (∀ b, b ≠ q → W2.heap[b]? = W.heap[b]?) := Lib.hid (fun b hb => by rw [hW2]; exact (setRow_other W1 q b _ hb).trans (hf1 b hb))
  clear hW2 hf1
  have HOWN : Hid (OwnP W2 B (.slice (some ⟨q, 0, none⟩) (n + 1) cap) (insP xs i x)) := Lib.hid (by
    refine ⟨by rw [hins, hil, List.length_append, List.length_append, List.length_take, hdl, gP_len, hL, hnl]; omega, .inr ⟨q, cap, _, by rw [hil, hnl], hBq, hq2, by omega, by unfold maxLen; omega, ?_, ?_⟩⟩
    · rw [List.size_toArray]; exact s2
    · rw [hil, hnl, hins]; exact s3)
  have HB := Lib.hid hb2
  have e1 : ((n + 1 : Nat) : Int) = (n : Int) + 1 := by omega
  have e2 : ((i + 1 : Nat) : Int) = (i : Int) + 1 := by omega
  have c1 := cutP q n cap i (by omega) (by omega)
  have c2 := cutHP q n cap (n + 1) hroom
  have c3 := cutP q (n + 1) cap (i + 1) (by omega) (by omega)
  have c4 := cutP q (n + 1) cap i (by omega) (by omega)
  rw [e1] at c2
  rw [e2] at c3
  have hw1 : IntKind.i64.wrap ((i : Int) + 1) = (i : Int) + 1 := by rw [IntKind.wrap_i64]; omega
  have z1 : ((i : Int) == (n : Int)) = false := by simp; omega
  have z1' : (i == n) = false := by simp; omega
  have z2 : decide ((cap : Int) < (n : Int) + 1) = false := decide_eq_false (by omega)
  clear e1 e2 hq hcs htake hvb hne s1 s2 s3 hins hil h1L hcell hL hdl hq1 hvb1 hb1 hq2 hb2 hnl hBq
  go_enter Tryd.func52, Tryd.ntmps52
  go_wp2_with (simp only [hov])
  go_region_law (refine step_copy_runI rfl _ _ 24 24 rfl _ _ (by simp [Act.eval, Act.put]) (by simp [Act.eval, Act.put]) (hcp1 _ _ _) ?_)
  go_wp2_with (at_builtin; refine wpList_copy_runI _ rfl _ _ 24 24 rfl _ _ rfl rfl (hcp2 _ _) ?_)
  go_ret
  exact ⟨_, rfl, HOWN.out, HB.out, fun b _ hne => have hbq : b ≠ q := fun e => hne (by rw [e]; rfl); ⟨HF2.out b hbq, fun e => hbq (Option.some.inj (show some q = some b from e)).symm⟩⟩

theorem insertK_any (v : Value) (xs : List PR) (i : Nat) (x : PR) (W : World) (B vb : Nat) (hown : OwnP W B v xs) (hvb : VB W vb x) (hne : ∀ q n c, v = .slice (some ⟨q, 0, none⟩) n c → vb ≠ q) (hB : B ≤ W.heap.size) (hi : i ≤ xs.length) (hn : xs.length ≤ 100000) :
    Calls Tryd.prog 52 #[v, .int .i64 i, .slice (some ⟨vb, 0, none⟩) 1 1] W fun e w' => ∃ v', e = .returned v' ∧ OwnP w' B v' (insP xs i x) ∧ Below B W w' ∧ InsF W v w' v' := by
  by_cases he : i = xs.length
  · subst he
    have e : insP xs xs.length x = xs ++ [x] := by unfold insP; simp
    rw [e]
    exact insert_endK v xs x W B vb hown hvb hB hn
  · have h' := hown
    unfold OwnP OwnG at h'
    rcases h'.2 with ⟨_, h0⟩ | ⟨q, cap, cur, rfl, hBq, hq, hnc, hcm, hcs, htake⟩
    · omega
    · by_cases hroom : xs.length + 1 ≤ cap
      · exact insert_shiftK q xs.length cap cur xs i x W B vb hq rfl (by omega) hroom hcm hcs htake hvb (hne _ _ _ rfl) hBq
      · obtain rfl : cap = xs.length := by omega
        refine (insert_grow q xs.length cur xs i x W W.heap.size vb hq rfl (by omega) hn hcs htake hvb (hne _ _ _ rfl) (Nat.le_refl _)).mono fun e w' h => ?_
        obtain ⟨v', he, ho, hb⟩ := h
        exact ⟨v', he, ho.weak hB, hb.mono hB, fun b hb2 _ => ⟨hb.block b hb2, OwnG.off ho hb2⟩⟩

end Go.Proofs.YthpplhhlhheopabDoor
