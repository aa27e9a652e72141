/-
  What Grow of a nil slice and Concat of two lists of consumers answer. Conditions: the lists read as data; so many consumers fit a slice.
-/
import Derived.Test.YtjkhfifnfgchgaaFaC
import Derived.Lib.AppendZeros
import Derived.Deep.LoopGhost
namespace Go.Proofs.Ytjkhfifnfgchgaa
open Go.RowKit
open S2 (BK Put)

theorem elemCs : Try.prog.elem 22 = 25 := by kernel_rfl
theorem undCs : Try.prog.underlying 22 = some (.slice (Try.prog.elem 22)) := by rw [elemCs]; exact Try.underlying22
theorem sizeCs (w : World) : (sizeOf (Try.prog.elem 22)).run Try.prog w = .ok 5 w := by
  obtain ⟨i, hi, hz, hz1, hz2⟩ := info_parts conInfo
  rw [elemCs]
  simp [sizeOf, typeInfo, hi, hz1]
set_option maxHeartbeats 1000000 in
theorem growC_any (n : Nat) (w : World) (hn : n ≤ 1000000) :
    Calls Try.prog 40 #[.slice none 0 0, .int .i64 n] w fun e w' => ∃ v, e = .returned v ∧ OwnC w' w.heap.size v [] ∧ Below w.heap.size w w' := by
  obtain ⟨i0, hi0, hz0, hzs, hzb⟩ := info_parts conInfo
  have q0 : decide ((n : Int) < 0) = false := decide_eq_false (by omega)
  by_cases h0 : n = 0
  · subst h0
    clear hi0 hz0 hzs hzb hn
    go_enter Try.func40, Try.ntmps40
    go_wp2
    go_ret
    exact ⟨_, rfl, OwnG.nil _ _, Below.refl _ _⟩
  · have q1 : decide ((0 : Int) < (n : Int)) = true := decide_eq_true (by omega)
    obtain ⟨z0, hz0'⟩ : ∃ z0 : Value, z0 = .agg #[.int .i64 0, .int .i64 0, .string ByteArray.empty, .int .i64 0, .int .i64 0] := ⟨_, rfl⟩
    have hzc : z0.cells.size = 5 := by rw [hz0']; rfl
    rw [← hz0'] at hz0
    obtain ⟨R, hR⟩ : ∃ R, R = Builtin.zeroCells z0.cells n ++ Builtin.zeroCells z0.cells (grownCap w n 0 25 - n) := ⟨_, rfl⟩
    obtain ⟨G, hG⟩ : ∃ G, G = grownCap w n 0 25 := ⟨_, rfl⟩
    have hGm : G ≤ maxLen := by rw [hG]; exact grownCap_le_maxLen w n 0 25 (by unfold maxLen; omega)
    have hGn : n ≤ G := by rw [hG]; exact grownCap_ge w _ _ _
    have hRs : R.size = G * 5 := by
      rw [hR, Array.size_append, size_zeroCells, size_zeroCells, ← hG, hzc]
      omega
    obtain ⟨W1, hW1⟩ : ∃ W1, W1 = w.drew.alloc (.cells R 25) := ⟨_, rfl⟩
    have hrz : ∀ ty, (Builtin.append_ #[22, 3] ty #[.slice none 0 0, .int .i64 (n : Int)]).run Try.prog w = .ok (.slice (some ⟨w.heap.size, 0, none⟩) n G) W1 := fun ty => by
      have h := Lib.run_append_nil_zeros (P := Try.prog) w 22 3 ty 25 i0 z0 .i64 .i64 Try.underlying22 Try.underlying3 hi0 hz0 n (by omega) (by omega) (by omega) (by rw [hzb]; omega)
      rw [hW1, hR, hG]
      exact h
    have HO : Hid (OwnC W1 w.heap.size (.slice (some ⟨w.heap.size, 0, none⟩) 0 G) []) := Lib.hid (by rw [hW1]; exact OwnG.made w.drew G R w.heap.size (Nat.le_refl _) hGm hRs)
    have HB : Hid (Below w.heap.size w W1) := Lib.hid (by rw [hW1]; exact ((Below.refl _ _).drew).alloc (Nat.le_refl _) _)
    have c1 : ∀ W : World, (Instr.slice 22 (.slice (some ⟨w.heap.size, 0, none⟩) n G) none (some (.int .i64 0)) none).run Try.prog W = .ok (.slice (some ⟨w.heap.size, 0, none⟩) 0 G) W := fun W => by
      have := run_slice_h (P := Try.prog) W 22 (some ⟨w.heap.size, 0, none⟩) n G undCs .i64 0 (by omega) (by omega)
      rw [this, sizeCs]
      simp [Result.andThen, sliced, Addr.add]
    clear hi0 hz0 hzs hzb hW1 hR hRs hG hGm hzc hz0'
    have h63 : n ≤ 140737488355328 := by omega
    go_enter Try.func40, Try.ntmps40
    go_wp2_with (at_builtin; refine Lib.wpList_append_run _ rfl _ _ _ _ rfl _ _ rfl rfl _ _ (hrz _) ?_)
    go_ret
    exact ⟨_, rfl, HO.out, HB.out⟩

set_option maxRecDepth 20000 in
set_option maxHeartbeats 4000000 in
theorem concatC_any (q : Nat) (A1 A2 : Option Addr) (c1 c2 : Nat) (xs ys : List Cs) (w : World) (k0 : w.cell? ⟨q, 0, none⟩ = some (.slice A1 xs.length c1)) (k1 : w.cell? ⟨q, 1, none⟩ = some (.slice A2 ys.length c2)) (hq : q < w.heap.size)
    (hx : CsL w w.heap.size A1 xs) (hy : CsL w w.heap.size A2 ys) (hn : xs.length + ys.length ≤ 1000000) :
    Calls Try.prog 30 #[.slice (some ⟨q, 0, none⟩) 2 2] w fun e w' => ∃ v, e = .returned v ∧ OwnC w' w.heap.size v (xs ++ ys) ∧ Below w.heap.size w w' := by
  have HX := Lib.hid hx
  have HY := Lib.hid hy
  have hg := growC_any (xs.length + ys.length) w (by omega)
  rw [show (((xs.length + ys.length : Nat)) : Int) = (xs.length : Int) + (ys.length : Int) by omega] at hg
  have HG := Lib.hid hg
  have HK : Hid (∀ w', Below w.heap.size w w' → w'.cell? ⟨q, 0, none⟩ = some (.slice A1 xs.length c1) ∧ w'.cell? ⟨q, 1, none⟩ = some (.slice A2 ys.length c2)) := Lib.hid fun w' h => ⟨(h.cell hq).trans k0, (h.cell hq).trans k1⟩
  clear hx hy hg
  have hn1 : xs.length ≤ 1000000 := by omega
  have hn2 : ys.length ≤ 1000000 := by omega
  have z1 : decide ((xs.length : Int) < 0) = false := decide_eq_false (by omega)
  have z2 : decide ((xs.length : Int) + (ys.length : Int) < 0) = false := decide_eq_false (by omega)
  go_enter Try.func30, Try.ntmps30
  go_wp2
  go_loopg [3, 11] 2 (fun g s i wr => w = wr ∧ ((g = 2 ∧ i = .int .i64 0 ∧ s = .int .i64 0) ∨ (g = 1 ∧ i = .int .i64 1 ∧ s = .int .i64 xs.length) ∨ (g = 0 ∧ i = .int .i64 2 ∧ s = .int .i64 ((xs.length : Int) + (ys.length : Int)))))
  case atStart => exact ⟨rfl, .inl ⟨rfl, rfl, rfl⟩⟩
  case round =>
    obtain ⟨rfl, ⟨rfl, rfl, rfl⟩ | ⟨rfl, rfl, rfl⟩ | ⟨rfl, rfl, rfl⟩⟩ := hrel
    · go_wp2
      go_roundg 1
      case measure => omega
      case rel => exact ⟨rfl, .inr (.inl ⟨rfl, rfl, rfl⟩)⟩
    · go_wp2
      go_roundg 0
      case measure => omega
      case rel => exact ⟨rfl, .inr (.inr ⟨rfl, rfl, rfl⟩)⟩
    · clear k0 k1
      go_wp2_with fail
      refine HG.out.mono ?_
      rintro e w1 ⟨v1, rfl, hown1, hb1⟩
      have HO1 := Lib.hid hown1
      have HB1 := Lib.hid hb1
      clear hown1 hb1
      go_wp2
      go_loopg [6, 27] 2 (fun g u i wr => Below w.heap.size w wr ∧ w.heap.size ≤ wr.heap.size ∧ ((g = 2 ∧ i = .int .i64 0 ∧ OwnC wr w.heap.size u []) ∨ (g = 1 ∧ i = .int .i64 1 ∧ OwnC wr w.heap.size u xs) ∨ (g = 0 ∧ i = .int .i64 2 ∧ OwnC wr w.heap.size u (xs ++ ys))))
      case atStart => exact ⟨HB1.out, HB1.out.size, .inl ⟨rfl, rfl, HO1.out⟩⟩
      case round =>
        obtain ⟨hb, hsz, ⟨rfl, rfl, hown⟩ | ⟨rfl, rfl, hown⟩ | ⟨rfl, rfl, hown⟩⟩ := hrel
        all_goals
          have HO := Lib.hid hown
          have HB := Lib.hid hb
          clear hown hb
        · obtain ⟨kk0, _⟩ := HK.out _ HB.out
          go_wp2_with (at_builtin; go_must (refine wpList_appG (g := gC) (k := 5) (e := 25) (by decide) wr rfl _ _ 22 22 rfl (.agg #[.int .i64 0, .int .i64 0, .string ByteArray.empty, .int .i64 0, .int .i64 0]) 48 Try.underlying22 conInfo rfl (by decide) w.heap.size u6 [] xs rfl HO.out _ rfl (GL.src gC_len gC_one (HX.out.below HB.out) Try.underlying22 c1) w HB.out hsz (by simp; omega) ?_); intro v' w2 hown' hb' hsz')
          have HO' := Lib.hid hown'
          have HB' := Lib.hid hb'
          clear hown' hb'
          go_wp2
          go_roundg 1
          case measure => omega
          case rel => exact ⟨HB'.out, hsz', .inr (.inl ⟨rfl, rfl, HO'.out⟩)⟩
        · obtain ⟨_, kk1⟩ := HK.out _ HB.out
          go_wp2_with (at_builtin; go_must (refine wpList_appG (g := gC) (k := 5) (e := 25) (by decide) wr rfl _ _ 22 22 rfl (.agg #[.int .i64 0, .int .i64 0, .string ByteArray.empty, .int .i64 0, .int .i64 0]) 48 Try.underlying22 conInfo rfl (by decide) w.heap.size u6 xs ys rfl HO.out _ rfl (GL.src gC_len gC_one (HY.out.below HB.out) Try.underlying22 c2) w HB.out hsz (by omega) ?_); intro v' w2 hown' hb' hsz')
          have HO' := Lib.hid hown'
          have HB' := Lib.hid hb'
          clear hown' hb'
          go_wp2
          go_roundg 0
          case measure => omega
          case rel => exact ⟨HB'.out, hsz', .inr (.inr ⟨rfl, rfl, HO'.out⟩)⟩
        · go_wp2
          go_ret
          exact ⟨_, rfl, HO.out, HB.out⟩
end Go.Proofs.Ytjkhfifnfgchgaa
