/-
  What open and plain of the program answer on the rest of a filter's levels. Conditions: as in each theorem.
-/
import Derived.Test.YtoakhkiiefiebaaDoorNarrow
import Derived.Laws.AppendOwnNone
namespace Go.Proofs.YtoakhkiiefiebaaDoor.S1
open Go.RowKit

set_option maxHeartbeats 400000 in
theorem mOpen_any (A : Option Addr) (c : Nat) (xs : List ByteArray) (w : World) (B : Nat) (h : SL w B A xs) :
    Calls Tryd.prog 84 #[.slice A xs.length c] w fun e w' => e = .returned (.bool (openB xs)) ∧ w = w' := by
  match xs, h with
  | [], _ =>
    show Calls Tryd.prog 84 #[.slice A 0 c] w fun e w' => e = .returned (.bool false) ∧ w = w'
    go_enter Tryd.func84, Tryd.ntmps84
    go_wp2
    go_ret
    exact ⟨rfl, rfl⟩
  | x :: r, h =>
    obtain ⟨b, o, rfl, hbB, hcl⟩ := h (by simp)
    have k1 := hcl 0 x rfl
    rw [Nat.add_zero] at k1
    have hp : 0 < (x :: r).length := by simp
    show Calls Tryd.prog 84 #[.slice (some ⟨b, o, none⟩) (x :: r).length c] w fun e w' => e = .returned (.bool (decide (x = hashB))) ∧ w = w'
    generalize (x :: r).length = n at hp
    clear hcl h
    by_cases h35 : x = hashB
    · have y35 : x.toList = [35] := tl_of h35
      rw [decide_eq_true h35]
      clear h35
      go_enter Tryd.func84, Tryd.ntmps84
      go_wp2
      go_ret
      exact ⟨rfl, rfl⟩
    · have n35 : ¬ x.toList = [35] := tl_ne h35
      have m35 : (x.toList == [35]) = false := beq_eq_false_iff_ne.2 n35
      rw [decide_eq_false h35]
      clear h35
      go_enter Tryd.func84, Tryd.ntmps84
      go_wp2
      go_ret
      exact ⟨retb (by simp), rfl⟩

/-- as RetStrs, and a nil slice has no capacity -/
def RetStrs2 (xs : List ByteArray) (W : World) (e : Ending) (w' : World) : Prop :=
  ∃ A c, e = .returned (.slice A xs.length c) ∧ xs.length ≤ c ∧ (A = none → c = 0) ∧ SL w' w'.heap.size A xs ∧ Below W.heap.size W w'
theorem Own.ret2 {w : World} {B : Nat} {v : Value} {xs : List ByteArray} (h : Own w B v xs) : ∃ A c, v = .slice A xs.length c ∧ xs.length ≤ c ∧ (A = none → c = 0) ∧ SL w w.heap.size A xs := by
  obtain ⟨A, c, hv, hc, hs⟩ := h.ret
  refine ⟨A, c, hv, hc, fun hn => ?_, hs⟩
  unfold Own at h
  rcases h.2 with ⟨h1, _⟩ | ⟨g, cap, cur, h1, _⟩
  · rw [hv] at h1
    injection h1
  · rw [hv, hn] at h1
    cases h1

set_option maxRecDepth 100000 in
theorem wpList_appMany {ops : Array Oper} {rest : List Oper} {o : Oper} {a : Act} {Q : Exit → Act → World → Prop} (wr : World) (hgd : o.guard = none) (s x : Operand)
    (ho : o.op = .call { callee := .builtin .append, args := #[s, x], argTypes := #[45, 45] }) (B : Nat) (v : Value) (xs ys : List ByteArray) (hs : a.eval s = v) (hown : Own wr B v xs)
    (A : Option Addr) (c : Nat) (hx : a.eval x = .slice A ys.length c) (hn0 : A = none → c = 0) (hsl : SL wr wr.heap.size A ys) (w0 : World) (hb : Below B w0 wr) (hB : B ≤ wr.heap.size) (hn : xs.length + ys.length ≤ 4294967296)
    (h : ∀ v' w', Own w' B v' (xs ++ ys) → Below B w0 w' → B ≤ w'.heap.size → wpList Tryd.prog ops Q rest (a.put o.dst v') w') : wpList Tryd.prog ops Q (o :: rest) a wr := by
  obtain ⟨i, hi, hz, hz1, hz2⟩ := info_parts infoS
  rcases A with _ | ad
  · have hy : ys = [] := by
      rcases Nat.eq_zero_or_pos ys.length with h0 | h0
      · exact List.eq_nil_of_length_eq_zero h0
      · obtain ⟨b, o, e, _⟩ := hsl h0
        cases e
    subst hy
    refine wpList_append_own_none hgd s x 45 ho B 9 i 1 Tryd.underlying45 hi v xs.length (xs.map Value.string) hs hown ?_ ?_
    · rw [hx, hn0 rfl]; rfl
    · exact h v wr (by simpa using hown) hb hB
  · have hcells : ∀ j u, (ys.map Value.string)[j]? = some u → wr.cell? (ad.add j) = some u := by
      intro j u hu
      rcases Nat.eq_zero_or_pos ys.length with h0 | h0
      · rw [List.eq_nil_of_length_eq_zero h0] at hu
        simp at hu
      · obtain ⟨b, off, e, _, hcl⟩ := hsl h0
        injection e with e
        subst e
        rw [List.getElem?_map] at hu
        cases hy : ys[j]? with
        | none => rw [hy] at hu; cases hu
        | some y =>
          rw [hy] at hu
          simp only [Option.map_some, Option.some.injEq] at hu
          rw [← hu]
          have := hcl j y hy
          have ha : (⟨b, off, none⟩ : Addr).add j = ⟨b, off + j, none⟩ := by
            unfold Addr.add
            split
            · next h => subst h; rfl
            · rfl
          rw [ha]; exact this
    refine wpList_append_own _ hgd s x 45 ho B 9 i (.string ByteArray.empty) 1 16 Tryd.underlying45 hi hz hz1 hz2 rfl (by decide) v xs.length (xs.map Value.string) hs hown ad ys.length c (ys.map Value.string) hx (by simp) hcells (fun u hu => by
      obtain ⟨y, _, rfl⟩ := List.mem_map.1 hu; rfl) (by unfold maxLen; omega) (by omega) hB ?_
    intro v' w' hown' hgrow _
    refine h v' w' ?_ (hb.grown hgrow hB (fun j hj => (World.ownsRow.lt hown j hj).1)) (by have := hgrow.size; omega)
    unfold Own
    simpa using hown'

theorem plain_step {xs : List ByteArray} {k : Nat} {x : ByteArray} (hx : xs[k]? = some x) : plainB (xs.take (k + 1)) = plainB (xs.take k) ++ (if x = hashB then [] else [if x = plusB then exB else x]) := by
  unfold plainB
  rw [List.take_add_one, hx, List.filter_append, List.map_append]
  congr 1
  by_cases h : x = hashB
  · simp [h]
  · simp [h]
theorem plain_le (xs : List ByteArray) : (plainB xs).length ≤ xs.length := by
  unfold plainB
  rw [List.length_map]
  exact List.length_filter_le _ _

set_option maxHeartbeats 4000000 in
theorem mPlain_any (A : Option Addr) (c : Nat) (xs : List ByteArray) (w : World) (h : SL w w.heap.size A xs) (hf : ∀ x ∈ xs, LevOk x) (hx63 : xs.length ≤ 1000000) :
    Calls Tryd.prog 85 #[.slice A xs.length c] w (RetStrs2 (plainB xs) w) := by
  have HS := Lib.hid h
  have HFO : Hid (∀ (k : Nat) x, xs[k]? = some x → LevOk x) := Lib.hid (fun k x hx => hf x (List.mem_of_getElem? hx))
  clear h hf
  go_enter Tryd.func85, Tryd.ntmps85
  go_wp2
  go_loopg [3, 8] xs.length (fun g u v wr => ∃ k : Nat, k + g = xs.length ∧ v = .int .i64 k ∧ Own wr w.heap.size u (plainB (xs.take k)) ∧ Below w.heap.size w wr)
  case atStart => exact ⟨0, by omega, rfl, Own.nil _ _, Below.refl _ _⟩
  case round =>
    obtain ⟨k, hkg, rfl, hown, hb⟩ := hrel
    cases gk with
    | zero =>
      obtain rfl : k = xs.length := by omega
      rw [List.take_length] at hown
      clear hkg
      go_wp2
      go_ret
      obtain ⟨A', c', hv, hc, hn0, hsl⟩ := hown.ret2
      exact ⟨A', c', congrArg Ending.returned hv, hc, hn0, hsl, hb⟩
    | succ g =>
      have hlt : k < xs.length := by omega
      have HG := Lib.hid hkg
      have hslr := HS.out.at_ hb
      obtain ⟨b, o, rfl, hbB, hcl⟩ := hslr (by omega)
      obtain ⟨x, hx⟩ : ∃ x, xs[k]? = some x := ⟨_, List.getElem?_eq_getElem hlt⟩
      have k1 := hcl k x hx
      have hnl : (plainB (xs.take k)).length ≤ 1000000 := by
        have h1 := plain_le (xs.take k)
        rw [List.length_take] at h1
        omega
      have hst := plain_step hx
      have hlev := HFO.out k x hx
      have HOWN := Lib.hid hown
      have HB := Lib.hid hb
      clear hcl hx hkg hslr hown hb
      rcases hlev with hp | hh | hfr
      · have cw := fun w => wildcard_any x w
        rw [show wcI (dl x) = 43 by rw [hp]; exact wcI_plus] at cw
        have CW := Lib.hid cw
        have HV : Hid (plainB (xs.take (k + 1)) = plainB (xs.take k) ++ [⟨#[120]⟩]) := Lib.hid (by
          rw [hst, if_neg (by rw [hp]; exact fun e => hash_ne_plus e.symm), if_pos hp]; rfl)
        clear cw hst hp
        go_wp2_with fail
        refine (CW.out _).mono ?_
        rintro e w2 ⟨rfl, hb2⟩
        have hown2 := HOWN.out.below hb2
        have hbz := Below.step HB.out hb2
        have hsz2 := hbz.size
        clear hb2
        go_wp2_with (at_builtin; refine wpList_app1 _ rfl _ _ rfl w.heap.size u3 (plainB (xs.take k)) ⟨#[120]⟩ rfl hown2 rfl w hbz hsz2 (by omega) ?_; intro v' w4 hown4 hb4 hsz4)
        go_roundg g
        case measure => omega
        case rel => exact ⟨k + 1, by have := HG.out; omega, by go_num, by rw [HV.out]; exact hown4, hb4⟩
      · have cw := fun w => wildcard_any x w
        rw [show wcI (dl x) = 35 by rw [hh]; exact wcI_hash] at cw
        have CW := Lib.hid cw
        have HV : Hid (plainB (xs.take (k + 1)) = plainB (xs.take k)) := Lib.hid (by rw [hst, if_pos hh]; simp)
        clear cw hst hh
        go_wp2_with fail
        refine (CW.out _).mono ?_
        rintro e w2 ⟨rfl, hb2⟩
        have HB2 := Lib.hid hb2
        clear hb2
        go_wp2
        go_roundg g
        case measure => omega
        case rel => exact ⟨k + 1, by have := HG.out; omega, by go_num, by rw [HV.out]; exact HOWN.out.below HB2.out, Below.step HB.out HB2.out⟩
      · have cw := fun w => wildcard_any x w
        rw [wcI_none hfr] at cw
        have CW := Lib.hid cw
        have hxh : x ≠ hashB := fun e => by subst e; exact absurd hfr (by decide +kernel)
        have hxp : x ≠ plusB := fun e => by subst e; exact absurd hfr (by decide +kernel)
        have HV : Hid (plainB (xs.take (k + 1)) = plainB (xs.take k) ++ [x]) := Lib.hid (by rw [hst, if_neg hxh, if_neg hxp])
        clear cw hst hxh hxp hfr
        go_wp2_with fail
        refine (CW.out _).mono ?_
        rintro e w2 ⟨rfl, hb2⟩
        have hown2 := HOWN.out.below hb2
        have hbz := Below.step HB.out hb2
        have hsz2 := hbz.size
        clear hb2
        go_wp2_with (at_builtin; refine wpList_app1 _ rfl _ _ rfl w.heap.size u3 (plainB (xs.take k)) x rfl hown2 rfl w hbz hsz2 (by omega) ?_; intro v' w4 hown4 hb4 hsz4)
        go_roundg g
        case measure => omega
        case rel => exact ⟨k + 1, by have := HG.out; omega, by go_num, by rw [HV.out]; exact hown4, hb4⟩

end Go.Proofs.YtoakhkiiefiebaaDoor.S1
