/-
  What Expand of access and of its specification answer. Conditions: the client and the user have at most 64 bytes, the filter at most 1000; the library's bound on short texts holds a number.
-/
import Derived.Test.YtoakhkiiefiebaaDoorAcA
namespace Go.Proofs.YtoakhkiiefiebaaDoor.S1
open Go.RowKit
open S2 (BK Put)

/-- the levels of a text, in a block of their own -/
theorem tLevelsX_any (s : ByteArray) (w : World) (hw : Okw w) (hs : s.size < 4294967281) :
    Calls Tryd.prog 30 #[.string s] w fun e w' => e = .returned (.slice (some ⟨w.heap.size, 0, none⟩) (lvB s).length (lvB s).length) ∧ BK 9 w' w.heap.size ((lvB s).map Value.string) ∧ Below w.heap.size w w' := by
  obtain ⟨m, hm⟩ := hw
  have c := Tryd.strings_Split s ⟨#[47]⟩ m w hs hm (by decide)
  rw [splitB_lv, countB_lv] at c
  have HC := Lib.hid c
  clear c hm
  go_enter Tryd.func30, Tryd.ntmps30
  go_wp2_with fail
  refine HC.out.mono ?_
  rintro e w' ⟨rfl, rfl⟩
  go_wp2_with fail
  go_ret
  exact ⟨rfl, BK.new _ _ _, (Below.refl _ _).alloc (Nat.le_refl _) _⟩
/-- the levels below k replaced, the others not yet -/
def part (e : ByteArray → ByteArray) (xs : List ByteArray) (k : Nat) : List ByteArray := (xs.take k).map e ++ xs.drop k
theorem part_len (e : ByteArray → ByteArray) (xs : List ByteArray) (k : Nat) : (part e xs k).length = xs.length := by
  unfold part
  rw [List.length_append, List.length_map, List.length_take, List.length_drop]; omega
theorem part_at {e : ByteArray → ByteArray} {xs : List ByteArray} {k : Nat} {x : ByteArray} (h : xs[k]? = some x) : (part e xs k)[k]? = some x := by
  have hk := (List.getElem?_eq_some_iff.1 h).1
  unfold part
  rw [List.getElem?_append_right (by rw [List.length_map, List.length_take]; omega), List.length_map, List.length_take, List.getElem?_drop, Nat.min_eq_left (by omega)]
  simpa using h
theorem part_succ {e : ByteArray → ByteArray} {xs : List ByteArray} {k : Nat} {x : ByteArray} (h : xs[k]? = some x) : part e xs (k + 1) = (part e xs k).set k (e x) := by
  have hk := (List.getElem?_eq_some_iff.1 h).1
  have hl : ((xs.take k).map e).length = k := by rw [List.length_map, List.length_take]; omega
  unfold part
  rw [List.take_add_one, h, drop_at h, List.map_append, List.set_append_right _ _ (by omega), hl, Nat.sub_self, List.append_assoc]
  rfl
theorem part_same {e : ByteArray → ByteArray} {xs : List ByteArray} {k : Nat} {x : ByteArray} (h : xs[k]? = some x) (he : e x = x) : part e xs (k + 1) = part e xs k := by
  rw [part_succ h, he]
  obtain ⟨hk, e2⟩ := List.getElem?_eq_some_iff.1 (part_at (e := e) h)
  conv => lhs; rw [← e2]
  exact List.set_getElem_self hk
theorem part_all (e : ByteArray → ByteArray) (xs : List ByteArray) : part e xs xs.length = xs.map e := by
  unfold part
  rw [List.take_length, List.drop_length, List.append_nil]
theorem part_zero (e : ByteArray → ByteArray) (xs : List ByteArray) : part e xs 0 = xs := rfl
theorem exp_c (c u : ByteArray) {x : ByteArray} (h : x = pcB) : expL c u x = c := by unfold expL; rw [if_pos h]
theorem exp_u (c u : ByteArray) {x : ByteArray} (h1 : x ≠ pcB) (h : x = puB) : expL c u x = u := by unfold expL; rw [if_neg h1, if_pos h]
theorem exp_n (c u : ByteArray) {x : ByteArray} (h1 : x ≠ pcB) (h : x ≠ puB) : expL c u x = x := by unfold expL; rw [if_neg h1, if_neg h]
theorem bk_sl {w : World} {g : Nat} {xs : List ByteArray} (h : BK 9 w g (xs.map Value.string)) : SL w w.heap.size (some ⟨g, 0, none⟩) xs := fun _ =>
  ⟨g, 0, rfl, h.lt, fun j x hx => by rw [Nat.zero_add]; exact h.cell j (by rw [List.getElem?_map, hx]; rfl)⟩

set_option maxRecDepth 20000 in
set_option maxHeartbeats 4000000 in
theorem tExpand_any (f c u : ByteArray) (w : World) (hw : Okw w) (hc : c.size ≤ 64) (hu : u.size ≤ 64) (hf : f.size ≤ 1000) :
    Calls Tryd.prog 15 #[.string f, whV c u] w fun e w' => e = .returned (.string (expB f c u)) ∧ Below w.heap.size w w' := by
  have hlen := lvs_le hf
  have hle := exps_le hc hu hf
  have hjz := jnB_size hle
  rw [List.length_map] at hjz
  have hj2 : (jnB ((lvB f).map (expL c u))).size ≤ 140737488355328 := by
    have : (lvB f).length * (1000 + 1) ≤ 1001 * 1001 := Nat.mul_le_mul (by omega) (by omega)
    omega
  have HL := Lib.hid (fun w1 h => tLevelsX_any f w1 h (by omega))
  have HJ := Lib.hid (fun A w1 h => tJoin_any A (lvB f).length ((lvB f).map (expL c u)) w1 h (by rw [List.length_map]; omega) (by rw [List.length_map]; omega) hj2)
  rw [List.length_map] at HJ
  unfold expB
  have HPA := Lib.hid (part_all (expL c u) (lvB f))
  have HPZ := Lib.hid (part_zero (expL c u) (lvB f))
  generalize lvB f = xs at *
  generalize jnB (xs.map (expL c u)) = J at *
  have HE1 := Lib.hid (fun x => @exp_c c u x)
  have HE2 := Lib.hid (fun x => @exp_u c u x)
  have HE3 := Lib.hid (fun x => @exp_n c u x)
  generalize expL c u = ex at *
  have HO := Lib.hid hw
  clear hle hjz hj2 hw hc hu hf
  unfold whV
  go_enter Tryd.func15, Tryd.ntmps15
  go_upto_region 1 with fail
  refine name_world (C := fun w1 => Code.wp _ _ _ _ w1) (w.alloc (.cells ([.string c, .string u] : List Value).toArray 28)) ?_
  intro w1 hw1
  have hb1 : Below w.heap.size w w1 := by rw [hw1]; exact S2.below_new w _
  have V_w1 : Hid (BK 28 w1 w.heap.size [.string c, .string u]) := Lib.hid (by rw [hw1]; exact BK.new w _ _)
  have B_w1 := Lib.hid hb1
  have O_w1 := Lib.hid (HO.out.step hb1)
  clear hw1 hb1 HO
  go_wp2_with fail
  refine (HL.out w1 O_w1.out).mono ?_
  rintro e w2 ⟨rfl, hbk, hb⟩
  obtain ⟨g, hg⟩ : ∃ g, w1.heap.size = g := ⟨_, rfl⟩
  rw [hg] at hbk
  have V_w2 := Lib.hid (V_w1.out.step hb)
  have B_w2 := Lib.hid (stepB B_w1.out hb)
  have HNE : Hid (w.heap.size < g ∧ w.heap.size ≤ g) := Lib.hid (by have := V_w1.out.lt; omega)
  have G_w2 := Lib.hid hbk
  rw [hg]
  clear hbk hb V_w1 B_w1 O_w1 HL hg
  go_wp2_with fail
  go_loopg [12] xs.length (fun gg v wr => ∃ k : Nat, k + gg = xs.length ∧ v = .int .i64 k ∧ BK 9 wr g ((part ex xs k).map Value.string) ∧ BK 28 wr w.heap.size [.string c, .string u] ∧ Below w.heap.size w wr)
  case atStart => exact ⟨0, by omega, rfl, by rw [HPZ.out]; exact G_w2.out, V_w2.out, B_w2.out⟩
  case round =>
    obtain ⟨k, hkg, rfl, hbk, hv, hb0⟩ := hrel
    have HBK := Lib.hid hbk
    have HV := Lib.hid hv
    have HB0 := Lib.hid hb0
    have HG := Lib.hid hkg
    clear hbk hv hb0 G_w2 V_w2 B_w2
    cases gk with
    | zero =>
      obtain rfl : k = xs.length := by omega
      have HS : Hid (SL wr wr.heap.size (some ⟨g, 0, none⟩) (xs.map ex)) := Lib.hid (by rw [← HPA.out]; exact bk_sl HBK.out)
      clear hkg
      go_wp2_with fail
      refine (HJ.out _ wr HS.out).mono ?_
      rintro e w3 ⟨rfl, hb⟩
      have HB3 := Lib.hid (stepB HB0.out hb)
      clear hb
      go_wp2
      go_ret
      exact ⟨rfl, HB3.out⟩
    | succ gk =>
      have hlt : k < xs.length := by omega
      have e3 : decide ((k : Int) < (xs.length : Int)) = true := decide_eq_true (by omega)
      obtain ⟨x, hx⟩ : ∃ x, xs[k]? = some x := ⟨_, List.getElem?_eq_getElem hlt⟩
      have k1 : wr.cell? ⟨g, k, none⟩ = some (.string x) := HBK.out.cell k (by rw [List.getElem?_map, part_at hx]; rfl)
      have j1 : (0 : Int) ≤ (k : Int) := by omega
      have j2 : (k : Int) < (xs.length : Int) := by omega
      have f1 : wr.frozen? ⟨g, k, none⟩ = false := HBK.out.free k
      have c0 : wr.cell? ⟨w.heap.size, 0, none⟩ = some (.string c) := HV.out.cell 0 rfl
      have c1 : wr.cell? ⟨w.heap.size, 1, none⟩ = some (.string u) := HV.out.cell 1 rfl
      have HX1 := Lib.hid (@part_succ ex xs k x hx)
      have HX2 := Lib.hid (@part_same ex xs k x hx)
      have HPL : Hid (∀ y, BK 9 (wr.setCell ⟨g, k, none⟩ (.string y)) g (((part ex xs k).set k y).map Value.string)) := Lib.hid (fun y => by rw [List.map_set]; exact HBK.out.set k _)
      have HVO : Hid (∀ v, BK 28 (wr.setCell ⟨g, k, none⟩ v) w.heap.size [.string c, .string u]) := Lib.hid (fun v => HV.out.other (by have := HNE.out.1; show w.heap.size ≠ g; omega) v)
      have HBO : Hid (∀ v, Below w.heap.size w (wr.setCell ⟨g, k, none⟩ v)) := Lib.hid (fun v => HB0.out.setCell (p := ⟨g, k, none⟩) HNE.out.2 v)
      have q1 : (x.toList == [37, 99]) = decide (x = pcB) := eqC x [37, 99]
      have q2 : (x.toList == [37, 117]) = decide (x = puB) := eqC x [37, 117]
      clear hx hkg
      by_cases h1 : x = pcB
      · rw [decide_eq_true h1] at q1
        have HE := Lib.hid (HE1.out x h1)
        clear h1 q2
        go_wp2
        go_roundg gk
        case measure => omega
        case rel => exact ⟨k + 1, by have := HG.out; omega, by go_num, by rw [HX1.out, HE.out]; exact HPL.out c, HVO.out _, HBO.out _⟩
      · rw [decide_eq_false h1] at q1
        by_cases h2 : x = puB
        · rw [decide_eq_true h2] at q2
          have HE := Lib.hid (HE2.out x h1 h2)
          clear h1 h2
          go_wp2
          go_roundg gk
          case measure => omega
          case rel => exact ⟨k + 1, by have := HG.out; omega, by go_num, by rw [HX1.out, HE.out]; exact HPL.out u, HVO.out _, HBO.out _⟩
        · rw [decide_eq_false h2] at q2
          have HE := Lib.hid (HE3.out x h1 h2)
          clear h1 h2
          go_wp2
          go_roundg gk
          case measure => omega
          case rel => exact ⟨k + 1, by have := HG.out; omega, by go_num, by rw [HX2.out HE.out]; exact HBK.out, HV.out, HB0.out⟩

theorem map_snoc {e : ByteArray → ByteArray} {xs : List ByteArray} {k : Nat} {x : ByteArray} (h : xs[k]? = some x) : (xs.take (k + 1)).map e = (xs.take k).map e ++ [e x] := by
  rw [List.take_add_one, h, List.map_append]; rfl
set_option maxRecDepth 20000 in
set_option maxHeartbeats 4000000 in
theorem rExpand_any (f c u : ByteArray) (w : World) (hc : c.size ≤ 64) (hu : u.size ≤ 64) (hf : f.size ≤ 1000) :
    Calls Tryd.prog 16 #[.string f, whV c u] w fun e w' => e = .returned (.string (expB f c u)) ∧ Below w.heap.size w w' := by
  have hlen := lvs_le hf
  have hle := exps_le hc hu hf
  have HL := Lib.hid (fun w1 => rLevels_any f w1 (by omega))
  have HJ := Lib.hid (fun A cc w1 h => rJoin_any A cc ((lvB f).map (expL c u)) w1 w1.heap.size h (by rw [List.length_map]; omega) (fun x hx => by have := hle x hx; omega))
  rw [List.length_map] at HJ
  unfold expB
  generalize lvB f = xs at *
  generalize jnB (xs.map (expL c u)) = J at *
  have HE1 := Lib.hid (fun x => @exp_c c u x)
  have HE2 := Lib.hid (fun x => @exp_u c u x)
  have HE3 := Lib.hid (fun x => @exp_n c u x)
  generalize expL c u = ex at *
  clear hle hc hu hf
  unfold whV
  go_enter Tryd.func16, Tryd.ntmps16
  go_upto_region 1 with fail
  refine name_world (C := fun w1 => Code.wp _ _ _ _ w1) (w.alloc (.cells ([.string c, .string u] : List Value).toArray 28)) ?_
  intro w1 hw1
  have hb1 : Below w.heap.size w w1 := by rw [hw1]; exact S2.below_new w _
  have V_w1 : Hid (BK 28 w1 w.heap.size [.string c, .string u]) := Lib.hid (by rw [hw1]; exact BK.new w _ _)
  have B_w1 := Lib.hid hb1
  clear hw1 hb1
  go_wp2_with fail
  refine (HL.out w1).mono ?_
  rintro e w2 ⟨A, cc, rfl, _, hsl, hb⟩
  have V_w2 := Lib.hid (V_w1.out.step hb)
  have B_w2 := Lib.hid (stepB B_w1.out hb)
  have S_w2 := Lib.hid hsl
  clear hsl hb V_w1 B_w1 HL
  go_wp2_with fail
  go_loopg [6, 7] xs.length (fun gg uu v wr => ∃ k : Nat, k + gg = xs.length ∧ v = .int .i64 k ∧ Own wr w2.heap.size uu ((xs.take k).map ex) ∧ Below w2.heap.size w2 wr)
  case atStart => exact ⟨0, by omega, rfl, Own.nil _ _, Below.refl _ _⟩
  case round =>
    obtain ⟨k, hkg, rfl, hown, hb0⟩ := hrel
    have HW := Lib.hid hown
    have HB0 := Lib.hid hb0
    have HG := Lib.hid hkg
    have HSr := Lib.hid (S_w2.out.step hb0)
    have HV := Lib.hid (V_w2.out.step hb0)
    clear hown hb0
    cases gk with
    | zero =>
      obtain rfl : k = xs.length := by omega
      obtain ⟨A', c', hv, hc, hsl⟩ := HW.out.ret
      rw [List.take_length] at hv hc hsl
      rw [List.length_map] at hv
      subst hv
      have HS2 := Lib.hid hsl
      clear hkg hsl hc
      go_wp2_with fail
      refine (HJ.out A' c' wr HS2.out).mono ?_
      rintro e w3 ⟨rfl, rfl⟩
      go_wp2
      go_ret
      exact ⟨rfl, stepB B_w2.out HB0.out⟩
    | succ gk =>
      have hlt : k < xs.length := by omega
      have e3 : decide ((k : Int) < (xs.length : Int)) = true := decide_eq_true (by omega)
      obtain ⟨x, hx⟩ : ∃ x, xs[k]? = some x := ⟨_, List.getElem?_eq_getElem hlt⟩
      obtain ⟨b, o, hA, hbB, hcl⟩ := HSr.out (by omega)
      subst hA
      have k1 := hcl k x hx
      have j1 : (0 : Int) ≤ (k : Int) := by omega
      have j2 : (k : Int) < (xs.length : Int) := by omega
      have c0 : wr.cell? ⟨w.heap.size, 0, none⟩ = some (.string c) := HV.out.cell 0 rfl
      have c1 : wr.cell? ⟨w.heap.size, 1, none⟩ = some (.string u) := HV.out.cell 1 rfl
      have HX1 := Lib.hid (@map_snoc ex xs k x hx)
      have hyl : ((xs.take k).map ex).length ≤ 4294967296 := by rw [List.length_map, List.length_take]; omega
      have HYL := Lib.hid hyl
      have q1 : (x.toList == [37, 99]) = decide (x = pcB) := eqC x [37, 99]
      have q2 : (x.toList == [37, 117]) = decide (x = puB) := eqC x [37, 117]
      generalize (xs.take k).map ex = ys at *
      clear hx hkg hcl hbB hyl
      by_cases h1 : x = pcB
      · rw [decide_eq_true h1] at q1
        have HE := Lib.hid (HE1.out x h1)
        clear h1 q2
        go_wp2_with (at_builtin; refine wpList_app1 _ rfl _ _ rfl w2.heap.size u6 ys c rfl HW.out rfl w2 HB0.out HB0.out.size HYL.out ?_; intro v' w4 hown4 hb4 hsz4)
        go_roundg gk
        case measure => omega
        case rel => exact ⟨k + 1, by have := HG.out; omega, by go_num, by rw [HX1.out, HE.out]; exact hown4, hb4⟩
      · rw [decide_eq_false h1] at q1
        by_cases h2 : x = puB
        · rw [decide_eq_true h2] at q2
          have HE := Lib.hid (HE2.out x h1 h2)
          clear h1 h2
          go_wp2_with (at_builtin; refine wpList_app1 _ rfl _ _ rfl w2.heap.size u6 ys u rfl HW.out rfl w2 HB0.out HB0.out.size HYL.out ?_; intro v' w4 hown4 hb4 hsz4)
          go_roundg gk
          case measure => omega
          case rel => exact ⟨k + 1, by have := HG.out; omega, by go_num, by rw [HX1.out, HE.out]; exact hown4, hb4⟩
        · rw [decide_eq_false h2] at q2
          have HE := Lib.hid (HE3.out x h1 h2)
          clear h1 h2
          go_wp2_with (at_builtin; refine wpList_app1 _ rfl _ _ rfl w2.heap.size u6 ys x rfl HW.out rfl w2 HB0.out HB0.out.size HYL.out ?_; intro v' w4 hown4 hb4 hsz4)
          go_roundg gk
          case measure => omega
          case rel => exact ⟨k + 1, by have := HG.out; omega, by go_num, by rw [HX1.out, HE.out]; exact hown4, hb4⟩
end Go.Proofs.YtoakhkiiefiebaaDoor.S1
