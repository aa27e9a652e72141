/-
  What wildcard, open and blind of the program and wild of the specification answer, on levels of filters. Conditions: as in each theorem.
-/
import Derived.Test.YtoakhkiiefiebaaDoorPure2
import Derived.Test.YtoakhkiiefiebaaDoorTopic
namespace Go.Proofs.YtoakhkiiefiebaaDoor.S1
open Go.RowKit
open Go.Lib (run_next_any_at run_next_ascii_at run_next_end_at iterAt_heap below_iterAt)

def wcI : List UInt8 → Int
  | [] => 0
  | c :: r => if notW c = true then wcI r else (c.toNat : Int)
theorem wcI_none : ∀ {l : List UInt8}, T.wildFree l = true → wcI l = 0
  | [], _ => rfl
  | c :: r, h => by
    rw [wildFree_all, List.all_cons, Bool.and_eq_true] at h
    rw [wcI, if_pos h.1]
    exact wcI_none (by rw [wildFree_all]; exact h.2)
theorem wcI_at : ∀ {l : List UInt8} {i : Nat}, i < l.length → Free l notW i → notW (l.getD i 0) = false → wcI l = ((l.getD i 0).toNat : Int)
  | [], _, h, _, _ => absurd h (by simp)
  | c :: r, 0, _, _, hn => by
    have e : (c :: r).getD 0 0 = c := rfl
    rw [e] at hn ⊢
    rw [wcI, if_neg (by rw [hn]; decide)]
  | c :: r, i + 1, hi, hf, hn => by
    have h0 := hf 0 (by omega)
    have e : (c :: r).getD 0 0 = c := rfl
    rw [e] at h0
    rw [wcI, if_pos h0]
    exact wcI_at (l := r) (i := i) (by simpa using hi) (fun j hj => hf (j + 1) (by omega)) hn
theorem wcI_plus : wcI (dl plusB) = 43 := by decide +kernel
theorem wcI_hash : wcI (dl hashB) = 35 := by decide +kernel

set_option maxHeartbeats 1000000 in
theorem wildcard_any (x : ByteArray) (w : World) :
    Calls Tryd.prog 75 #[.string x] w fun e w' => e = .returned (.int .i32 (wcI (dl x))) ∧ Below w.heap.size w w' := by
  go_enter Tryd.func75, Tryd.ntmps75
  go_wp2
  go_loopg [4] x.size (fun g _ wr => ∃ j : Nat, x.size ≤ j + g ∧ j ≤ x.size ∧ wr.heap[w.heap.size]? = some (.stringIter x j) ∧ Free (dl x) notW j ∧ Below w.heap.size w wr)
  case atStart => exact ⟨0, by omega, by omega, World.iter_heap _ _ _, Free.zero _ _, (Below.refl _ _).alloc (Nat.le_refl _) _⟩
  case round =>
    obtain ⟨j, hjg, hjx, hk, hfree, hbi⟩ := hrel
    have HF := Lib.hid hfree
    have HBI := Lib.hid hbi
    clear hfree hbi
    by_cases hj : j < x.size
    · obtain ⟨y, hy⟩ : ∃ y : UInt8, x[j]'hj = y := ⟨_, rfl⟩
      have hyg : (dl x).getD j 0 = y := by rw [getD_dl x j hj, hy]
      have HY := Lib.hid hyg
      by_cases ha : y.toNat < 128
      · have hnx := fun ty => run_next_ascii_at (P := Tryd.prog) wr w.heap.size x j ty hk hj (by rw [hy]; exact ha)
        rw [hy] at hnx
        have HW1 := Lib.hid (iterAt_heap wr w.heap.size x j (j + 1) hk)
        have HW2 := Lib.hid (below_iterAt HBI.out (Nat.le_refl _) x (j + 1))
        obtain ⟨wy, hwy⟩ : ∃ wy, wr.iterAt w.heap.size x (j + 1) = wy := ⟨_, rfl⟩
        rw [hwy] at hnx HW1 HW2
        clear hwy hy hk
        cases hn : notW y
        · have HV := Lib.hid (wcI_at (by rw [← size_dl]; exact hj) HF.out (by rw [hyg]; exact hn))
          rw [hyg] at HV
          have hc : y = 43 ∨ y = 35 := by
            unfold notW at hn
            by_cases h1 : y = 43
            · exact .inl h1
            · by_cases h2 : y = 35
              · exact .inr h2
              · simp [h1, h2] at hn
          clear hyg hn
          rcases hc with h | h
          · have q43 : ((y.toNat : Int) == 43) = true := by rw [h]; rfl
            clear h
            go_wp2
            go_ret
            exact ⟨by rw [HV.out]; rfl, HW2.out⟩
          · have q43 : ((y.toNat : Int) == 43) = false := by rw [h]; rfl
            have q35 : ((y.toNat : Int) == 35) = true := by rw [h]; rfl
            clear h
            go_wp2
            go_ret
            exact ⟨by rw [HV.out]; rfl, HW2.out⟩
        · have hn' := hn
          unfold notW at hn'
          simp only [Bool.and_eq_true, decide_eq_true_eq] at hn'
          have q43 : ((y.toNat : Int) == 43) = false := beq_eq_false_iff_ne.2 (fun e => hn'.1 (UInt8.toNat_inj.1 (by show y.toNat = 43; omega)))
          have q35 : ((y.toNat : Int) == 35) = false := beq_eq_false_iff_ne.2 (fun e => hn'.2 (UInt8.toNat_inj.1 (by show y.toNat = 35; omega)))
          have HN := Lib.hid hn
          clear hyg hn hn'
          go_wp2
          cases gk with
          | zero => omega
          | succ g2 =>
            go_roundg g2
            case measure => omega
            case rel => exact ⟨j + 1, by omega, by omega, HW1.out, HF.out.succ (by rw [HY.out]; exact HN.out), HW2.out⟩
      · have ha' : 128 ≤ (x[j]'hj).toNat := by rw [hy]; omega
        have hh := (decode_high x j hj ha').1
        have hnx := fun ty => run_next_any_at (P := Tryd.prog) wr w.heap.size x j ty hk hj
        obtain ⟨c', hc'⟩ : ∃ c : Nat, (Utf8.decode x j).1 = c := ⟨_, rfl⟩
        obtain ⟨d, hd⟩ : ∃ d : Nat, (Utf8.decode x j).2 = d := ⟨_, rfl⟩
        have hd1' : 1 ≤ d := by rw [← hd]; exact (decode_high x j hj ha').2
        have hfr := HF.out.rune hj ha' hd notW_high
        rw [hc'] at hnx hh
        rw [hd] at hnx
        have HW1 := Lib.hid (iterAt_heap wr w.heap.size x j (j + d) hk)
        have HW2 := Lib.hid (below_iterAt HBI.out (Nat.le_refl _) x (j + d))
        obtain ⟨wy, hwy⟩ : ∃ wy, wr.iterAt w.heap.size x (j + d) = wy := ⟨_, rfl⟩
        rw [hwy] at hnx HW1 HW2
        have hid := hfr.2
        have HFR := Lib.hid hfr.1
        have q43 : ((c' : Int) == 43) = false := beq_eq_false_iff_ne.2 (by omega)
        have q35 : ((c' : Int) == 35) = false := beq_eq_false_iff_ne.2 (by omega)
        clear hwy hy hyg hk ha' hc' hd hfr hh
        go_wp2
        cases gk with
        | zero => omega
        | succ g2 =>
          go_roundg g2
          case measure => omega
          case rel => exact ⟨j + d, by omega, by omega, HW1.out, HFR.out, HW2.out⟩
    · obtain rfl : j = x.size := by omega
      have hnx := fun ty => run_next_end_at (P := Tryd.prog) wr w.heap.size x x.size ty hk (by omega)
      have HV : Hid (wcI (dl x) = 0) := Lib.hid (wcI_none (by rw [wildFree_all]; exact Free.all (by rw [← size_dl]; exact HF.out)))
      clear hjg hjx hk
      go_wp2
      go_ret
      exact ⟨by rw [HV.out]; rfl, HBI.out⟩

/-! ### Levels of filters -/
theorem levOk_of {b : Bool} {x : List UInt8} (h : T.lok b x = true) : LevOk (bs x) := by
  unfold T.lok at h
  simp only [Bool.or_eq_true, Bool.and_eq_true, decide_eq_true_eq] at h
  rcases h with (h | h) | h
  · subst h; exact .inl rfl
  · rw [h.1]; exact .inr (.inl rfl)
  · refine .inr (.inr ?_)
    rw [dl_bs]
    unfold T.clean at h
    rw [List.all_eq_true] at h
    rw [wildFree_all, List.all_eq_true]
    intro c hc
    have := h c hc
    unfold notW
    simp only [Bool.and_eq_true, decide_eq_true_eq] at this ⊢
    exact ⟨this.1.2, this.2⟩
theorem bs_inj {a b : List UInt8} (h : bs a = bs b) : a = b := by rw [← dl_bs a, ← dl_bs b, h]
theorem filOk_map : ∀ (a : List (List UInt8)), (∀ i, i < a.length → T.okAt a i = true) → FilOk (a.map bs)
  | [], _ => trivial
  | x :: a, h => by
    have h0 := h 0 (by simp)
    unfold T.okAt at h0
    have e0 : (x :: a).getD 0 [] = x := rfl
    rw [e0] at h0
    refine ⟨levOk_of h0, fun hx => ?_, filOk_map a fun i hi => ?_⟩
    · have hx' : x = [35] := bs_inj hx
      subst hx'
      cases a with
      | nil => rfl
      | cons y t => exact absurd h0 (by simp [T.lok, T.clean])
    · have := h (i + 1) (by simpa using hi)
      unfold T.okAt at this ⊢
      have e1 : (x :: a).getD (i + 1) [] = a.getD i [] := rfl
      rw [e1] at this
      rw [← this]
      congr 1
      rw [List.length_cons]
      rw [Bool.eq_iff_iff]
      simp
theorem filOk_of {s : ByteArray} (h : T.filterL (dl s) = true) : FilOk (lvB s) := filOk_map _ (T.filterL_parts h).2.2.2

def hdW : List ByteArray → Bool
  | x :: _ => decide (x = plusB) || decide (x = hashB)
  | [] => false
theorem hdW_wc {x : ByteArray} {a : List ByteArray} (h : LevOk x) : hdW (x :: a) = !(wcI (dl x) == 0) := by
  unfold hdW
  rcases h with rfl | rfl | h
  · rw [wcI_plus]; simp
  · rw [wcI_hash]; simp
  · rw [wcI_none h]
    have h1 : x ≠ plusB := fun e => by subst e; exact absurd h (by decide +kernel)
    have h2 : x ≠ hashB := fun e => by subst e; exact absurd h (by decide +kernel)
    simp [h1, h2]

end Go.Proofs.YtoakhkiiefiebaaDoor.S1
