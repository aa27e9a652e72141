/-
  The walk of FrameTorn: it answers true. Conditions: the list reads as lists of bytes; the number fits its kind.
-/
import Derived.Test.YtijdfadmmloclabTorn
import Derived.Test.YtijdfadmmloclabAwake4
namespace Go.Proofs.Ytijdfadmmloclab
open Go.RowKit

/-- the values are slices that read as these byte lists, all older than B -/
def Old (w : World) (B : Nat) (vs : List Value) (xss : List (List UInt8)) : Prop :=
  vs.length = xss.length ∧ ∀ (j : Nat) (v : Value) (xs : List UInt8), vs[j]? = some v → xss[j]? = some xs → ∃ A c, v = .slice A xs.length c ∧ xs.length ≤ c ∧ CL bv w B A xs
theorem Old.below {w w' : World} {B : Nat} {vs : List Value} {xss : List (List UInt8)} (h : Old w B vs xss) (hb : Below B w w') : Old w' B vs xss :=
  ⟨h.1, fun j v xs h1 h2 => by
    obtain ⟨A, c, e, hc, hcl⟩ := h.2 j v xs h1 h2
    exact ⟨A, c, e, hc, hcl.below hb⟩⟩
theorem Old.els {w : World} {B : Nat} {vs : List Value} {xss : List (List UInt8)} (h : Old w B vs xss) (hB : B ≤ w.heap.size) (q : Nat) : Els w B (vs.take q) (xss.take q) :=
  ⟨by rw [List.length_take, List.length_take, h.1], fun j v xs h1 h2 => by
    rw [List.getElem?_take] at h1 h2
    split at h1
    · next hj =>
      rw [if_pos hj] at h2
      obtain ⟨A, c, e, hc, hcl⟩ := h.2 j v xs h1 h2
      refine ⟨A, c, e, hc, fun h0 => ?_⟩
      obtain ⟨b, o, e1, hb, hcell⟩ := hcl h0
      exact ⟨b, o, e1, by omega, .inl hb, hcell⟩
    · cases h1⟩

def short4R (xss : List (List UInt8)) : Bool := decide (xss.length ≤ 12) && xss.all fun x => decide (x.length ≤ 600)
def SmallUpto4 (xs : List (List UInt8)) (i : Nat) : Prop := ∀ j x, j < i → xs[j]? = some x → x.length ≤ 600
theorem SmallUpto4.succ {xs : List (List UInt8)} {i : Nat} {x : List UInt8} (h : SmallUpto4 xs i) (hx : xs[i]? = some x) (hs : x.length ≤ 600) : SmallUpto4 xs (i + 1) := fun j y hj hy => by
  rcases Nat.lt_succ_iff_lt_or_eq.1 hj with h' | h'
  · exact h j y h' hy
  · subst h'
    rw [hx] at hy
    rw [← Option.some.inj hy]; exact hs
theorem short4_done {xs : List (List UInt8)} (h : SmallUpto4 xs xs.length) (hl : xs.length ≤ 12) : short4R xs = true := by
  unfold short4R
  rw [decide_eq_true hl, Bool.true_and, List.all_eq_true]
  intro x hx
  obtain ⟨j, hj⟩ := List.mem_iff_getElem?.1 hx
  exact decide_eq_true (h j x (List.getElem?_eq_some_iff.1 hj).1 hj)
theorem short4_long {xs : List (List UInt8)} (h : 12 < xs.length) : short4R xs = false := by
  unfold short4R
  rw [decide_eq_false (by omega)]; rfl
theorem short4_bad {xs : List (List UInt8)} {i : Nat} {x : List UInt8} (hx : xs[i]? = some x) (hs : ¬ x.length ≤ 600) : short4R xs = false := by
  unfold short4R
  have : (xs.all fun x => decide (x.length ≤ 600)) = false := by
    rw [List.all_eq_false]
    exact ⟨x, List.mem_of_getElem? hx, by simpa using hs⟩
  rw [this]; simp
theorem short4_parts {xs : List (List UInt8)} (h : short4R xs = true) : xs.length ≤ 12 ∧ ∀ x ∈ xs, x.length ≤ 600 := by
  unfold short4R at h
  rw [Bool.and_eq_true, List.all_eq_true] at h
  exact ⟨of_decide_eq_true h.1, fun x hx => of_decide_eq_true (h.2 x hx)⟩

set_option maxHeartbeats 1000000 in
theorem short4_any (A : Option Addr) (c : Nat) (vs : List Value) (xs : List (List UInt8)) (w : World) (B : Nat) (h : CL id w B A vs) (ho : Old w B vs xs) (hN : vs.length ≤ 140737488355328) :
    Calls Try.prog 12 #[.slice A vs.length c] w fun e w' => e = .returned (.bool (short4R xs)) ∧ w = w' := by
  have hl := ho.1
  by_cases h12 : 12 < vs.length
  · rw [short4_long (by omega)]
    clear h ho hl
    go_enter Try.func12, Try.ntmps12
    go_wp2
    go_ret
    exact ⟨rfl, rfl⟩
  · have HS := Lib.hid h
    have HO := Lib.hid ho
    have HL := Lib.hid hl
    clear h ho hl
    go_enter Try.func12, Try.ntmps12
    go_wp2
    go_loop [3] (fun i => ∃ k : Nat, k ≤ vs.length ∧ i = .int .i64 k ∧ SmallUpto4 xs k) (fun i => vs.length - (intOf i).toNat)
    case atStart => exact ⟨0, by omega, rfl, fun _ _ h => absurd h (Nat.not_lt_zero _)⟩
    case round =>
      obtain ⟨k, hk, rfl, hsm⟩ := hrel
      have HM := Lib.hid hsm
      clear hsm
      by_cases hlt : k < vs.length
      · obtain ⟨b, o, rfl, hb, hcl⟩ := HS.out (by omega)
        obtain ⟨v, hv⟩ : ∃ x, vs[k]? = some x := ⟨_, List.getElem?_eq_getElem hlt⟩
        obtain ⟨x, hx⟩ : ∃ x, xs[k]? = some x := ⟨_, List.getElem?_eq_getElem (by have := HL.out; omega)⟩
        have k1 := hcl k v hv
        obtain ⟨A1, c1, rfl, _, _⟩ := HO.out.2 k v x hv hx
        simp only [id] at k1
        have HX := Lib.hid hx
        clear hcl hx hv HS HO
        by_cases hs : x.length ≤ 600
        · have q2 : decide ((600 : Int) < (x.length : Int)) = false := decide_eq_false (by omega)
          go_wp2
          exact ⟨⟨k + 1, by omega, by go_num, HM.out.succ HX.out hs⟩, by simp [intOf]; omega⟩
        · have q2 : decide ((600 : Int) < (x.length : Int)) = true := decide_eq_true (by omega)
          have HF := Lib.hid (short4_bad HX.out hs)
          go_wp2
          go_ret
          exact ⟨retb HF.out.symm, rfl⟩
      · obtain rfl : k = vs.length := by omega
        have HF := Lib.hid (short4_done (by rw [← HL.out]; exact HM.out) (by have := HL.out; omega))
        go_wp2
        go_ret
        exact ⟨retb HF.out.symm, rfl⟩

/-! ### Two lists of the call's own, one of bytes and one of slices -/
theorem own_kept {α β : Type} {f : α → Value} {f' : β → Value} {e e' : TypeId} (he : e ≠ e') {w w' : World} {B : Nat} {v v' : Value} {xs : List α} {ys : List β} (h : Own e f w B v xs) (h' : Own e' f' w B v' ys) (hg : w.grownBy w' v'.ownBlock) : Own e f w' B v xs := by
  unfold Own at h h' ⊢
  refine World.ownsRow.kept h hg ?_
  rcases h.2 with ⟨rfl, _⟩ | ⟨g, cap, cur, rfl, hB, hgc, _⟩
  · exact .inl rfl
  · right
    rcases h'.2 with ⟨rfl, _⟩ | ⟨g', cap', cur', rfl, hB', hgc', _⟩
    · simp [Value.ownBlock]
    · intro hv
      have : g = g' := by simpa [Value.ownBlock] using hv
      subst this
      rw [hgc] at hgc'
      simp at hgc'
      exact he hgc'.2
theorem u8_ne_sl : (5 : TypeId) ≠ 22 := by decide

section
variable {ops : Array Oper} {rest : List Oper} {o : Oper} {a : Act} {Q : Exit → Act → World → Prop}
/-- append of bytes; the list of slices stays -/
theorem wpList_appB2 (wr : World) (hgd : o.guard = none) (s x : Operand) (ho : o.op = .call { callee := .builtin .append, args := #[s, x], argTypes := #[22, 22] })
    (B : Nat) (v : Value) (xs ys : List UInt8) (A : Option Addr) (c : Nat) (hs : a.eval s = v) (hown : Own 5 bv wr B v xs) (hx : a.eval x = .slice A ys.length c) (B' : Nat) (hsl : CL bv wr B' A ys) (w0 : World) (hb : Below B w0 wr) (hB : B ≤ wr.heap.size)
    (hn : xs.length + ys.length ≤ 140737488355328) (u : Value) (us : List Value) (hu : Own 22 id wr B u us)
    (h : ∀ v' w', Own 5 bv w' B v' (xs ++ ys) → Own 22 id w' B u us → Below B w0 w' → B ≤ w'.heap.size → wpList Try.prog ops Q rest (a.put o.dst v') w') : wpList Try.prog ops Q (o :: rest) a wr := by
  obtain ⟨i, hi, hz, hz1, hz2⟩ := info_parts infoU8
  refine wpList_append_src wr hgd s x 22 22 ho B 5 i (.int .u8 0) 1 1 Try.underlying22 hi hz hz1 hz2 rfl (by decide) v xs.length (xs.map bv) hs hown _ hx ys.length (ys.map bv) (hsl.src Try.underlying22 bv_one c) (by unfold maxLen; omega) (by omega) hB ?_
  intro v' w' hown' hgrow
  refine h v' w' ?_ (own_kept (Ne.symm u8_ne_sl) hu hown hgrow) (hb.grown hgrow hB (fun j hj => (World.ownsRow.lt hown j hj).1)) (by have := hgrow.size; omega)
  unfold Own
  simpa using hown'
/-- append of a slice; the list of bytes stays -/
theorem wpList_appV2 (wr : World) (hgd : o.guard = none) (s x : Operand) (ho : o.op = .call { callee := .builtin .append, args := #[s, x], argTypes := #[32, 32] })
    (B : Nat) (v : Value) (vs : List Value) (A : Option Addr) (n c : Nat) (hs : a.eval s = v) (hown : Own 22 id wr B v vs) (hx : a.eval x = .slice (some ⟨wr.heap.size, 0, none⟩) 1 1) (w0 : World) (hb : Below B w0 wr) (hB : B ≤ wr.heap.size)
    (hn : vs.length ≤ 1099511627776) (u : Value) (us : List UInt8) (hu : Own 5 bv wr B u us)
    (h : ∀ v' w', Own 22 id w' B v' (vs ++ [.slice A n c]) → Own 5 bv w' B u us → Below B w0 w' → B ≤ w'.heap.size → wpList Try.prog ops Q rest (a.put o.dst v') w') : wpList Try.prog ops Q (o :: rest) a (wr.alloc (.cells #[.slice A n c] 22)) := by
  obtain ⟨i, hi, hz, hz1, hz2⟩ := info_parts infoSl
  have hown1 := hown.alloc (.cells #[.slice A n c] 22)
  have hu1 := hu.alloc (.cells #[.slice A n c] 22)
  have hB1 : B ≤ (wr.alloc (.cells #[.slice A n c] 22)).heap.size := by simp; omega
  have hsrc : Src Try.prog 1 32 (.slice (some ⟨wr.heap.size, 0, none⟩) 1 1) 1 [.slice A n c] (wr.alloc (.cells #[.slice A n c] 22)) :=
    Src.ofSlice _ Try.underlying32 _ 1 1 [.slice A n c] rfl (cell_one_new _ _ _) (fun u' hu => by simp at hu; subst hu; rfl)
  refine wpList_append_src _ hgd s x 32 32 ho B 22 i (.slice none 0 0) 1 24 Try.underlying32 hi hz hz1 hz2 rfl (by decide) v vs.length (vs.map id) hs hown1 _ hx 1 [.slice A n c] hsrc (by unfold maxLen; omega) (by omega) hB1 ?_
  intro v' w' hown' hgrow
  refine h v' w' ?_ (own_kept u8_ne_sl hu1 hown1 hgrow) ((hb.alloc hB _).grown hgrow hB1 (fun j hj => (World.ownsRow.lt hown1 j hj).1)) (Nat.le_trans hB1 hgrow.size)
  unfold Own
  simpa using hown'
end

set_option maxHeartbeats 4000000 in
theorem frameTorn_walk (A : Option Addr) (c : Nat) (vs : List Value) (xs : List (List UInt8)) (cut : Int) (w : World) (hsl : CL id w w.heap.size A vs) (ho : Old w w.heap.size vs xs) (_hc : vs.length ≤ c) (hn : vs.length ≤ 140737488355328) (hc1 : -9223372036854775808 ≤ cut) (hc2 : cut ≤ 9223372036854775807) :
    Calls Try.prog 5 #[.slice A vs.length c, .int .i64 cut] w fun e w' => e = .returned (.bool true) ∧ Below w.heap.size w w' := by
  have HSH := Lib.hid (short4_any A c vs xs w _ hsl ho hn)
  cases hsh : short4R xs
  · rw [hsh] at HSH
    clear hsl ho hsh
    go_enter Try.func5, Try.ntmps5
    go_wp2_with fail
    refine HSH.out.mono ?_
    rintro e w1 ⟨rfl, rfl⟩
    go_wp2_with fail
    refine (awake4_any _).mono ?_
    rintro e w1 ⟨rfl, hb1⟩
    go_wp2_with fail
    go_ret
    exact ⟨rfl, hb1⟩
  obtain ⟨h12, h600⟩ := short4_parts hsh
  rw [hsh] at HSH
  by_cases hcut0 : cut < 0
  · clear hsl ho hsh
    go_enter Try.func5, Try.ntmps5
    go_wp2_with fail
    refine HSH.out.mono ?_
    rintro e w1 ⟨rfl, rfl⟩
    go_wp2_with fail
    refine (awake4_any _).mono ?_
    rintro e w1 ⟨rfl, hb1⟩
    go_wp2_with fail
    go_ret
    exact ⟨rfl, hb1⟩
  obtain ⟨cut, rfl⟩ := Int.eq_ofNat_of_zero_le (by omega : 0 ≤ cut)
  have HVL := Lib.hid ho.1
  have HS := Lib.hid hsl
  have HO := Lib.hid ho
  have H6 := Lib.hid h600
  have HCL : Hid (∀ j, j ≤ vs.length → (cat (xs.take j)).length ≤ 7368) := Lib.hid (fun j hj => by
    have h1 := cat_len (xs.take j) (fun x hx => h600 x (List.mem_of_mem_take hx))
    rw [List.length_take] at h1
    exact Nat.le_trans h1 (Nat.le_trans (Nat.mul_le_mul (show min j xs.length ≤ 12 by omega) (Nat.le_refl 614)) (by decide)))
  have hv12 : vs.length ≤ 12 := by have := ho.1; omega
  clear hsl ho hsh h600 h12 hn
  go_enter Try.func5, Try.ntmps5
  go_wp2_with fail
  refine HSH.out.mono ?_
  rintro e w1 ⟨rfl, rfl⟩
  clear HSH
  go_wp2_with fail
  go_loopw [5, 6, 7, 8] (fun al wh en i wr => ∃ (j q : Nat), j ≤ vs.length ∧ i = .int .i64 j ∧ en = .int .i64 (cat (xs.take q)).length ∧ WholeN xs cut j q ∧ Own 5 bv wr w.heap.size al (cat (xs.take j)) ∧ Own 22 id wr w.heap.size wh (vs.take q) ∧ Below w.heap.size w wr) (fun _ _ _ i _ => vs.length - (intOf i).toNat)
  case atStart => exact ⟨0, 0, by omega, rfl, rfl, WholeN.start _ _, Own.nil _ _, Own.nil _ _, Below.refl _ _⟩
  case round =>
    obtain ⟨j, q, hj, rfl, rfl, hW, hal, hwh, hb⟩ := hrel
    have hB := hb.size
    have HW := Lib.hid hW
    have HA := Lib.hid hal
    have HH := Lib.hid hwh
    have hcj := HCL.out j hj
    have hcq := HCL.out q (by have := hW.1; omega)
    clear hW hal hwh
    by_cases hlt : j < vs.length
    · obtain ⟨b, o, rfl, hbB, hcl⟩ := HS.out (by omega)
      obtain ⟨v, hv⟩ : ∃ x, vs[j]? = some x := ⟨_, List.getElem?_eq_getElem hlt⟩
      obtain ⟨x, hx⟩ : ∃ x, xs[j]? = some x := ⟨_, List.getElem?_eq_getElem (by have := HVL.out; omega)⟩
      have k0 := hcl j v hv
      obtain ⟨A1, c1, rfl, hc1', hx1⟩ := (HO.out.below hb).2 j v x hv hx
      simp only [id] at k0
      have k1 := (hb.cell (p := ⟨b, o + j, none⟩) hbB).trans k0
      have hx6 := H6.out x (List.mem_of_getElem? hx)
      have HWR := Lib.hid (wrap_any A1 c1 x wr (hx1.more hB) (by omega))
      have hcs := cat_succ hx
      have hcj1 := HCL.out (j + 1) (by omega)
      have hvt : vs.take (j + 1) = vs.take j ++ [.slice A1 x.length c1] := by rw [List.take_add_one, hv]; rfl
      have HVT := Lib.hid hvt
      have HCS := Lib.hid hcs
      have hwl : (cat (xs.take j)).length + (wrapR x).length ≤ 7368 := by rw [← List.length_append, ← hcs]; exact hcj1
      obtain ⟨T, hT⟩ : ∃ T, T = cat (xs.take (j + 1)) := ⟨_, rfl⟩
      rw [← hT] at HCS hcj1
      have HTT := Lib.hid hT
      generalize cat (xs.take j) = C at HA HCS hwl
      generalize wrapR x = R at HWR HCS hwl
      obtain ⟨nx, hnx⟩ : ∃ n, n = x.length := ⟨_, rfl⟩
      rw [← hnx] at HVT k1 k0 HWR
      have K0 := Lib.hid k0
      clear hcl hv hx hx1 hcs hvt hT hnx hc1' k0
      go_wp2_with fail
      refine HWR.out.mono ?_
      rintro e w1 ⟨v1, rfl, hown1, hb1⟩
      obtain ⟨A2, c2, rfl, _, hsl2⟩ := hown1.ret
      have HA1 := Lib.hid (HA.out.step hb1)
      have HH1 := Lib.hid (HH.out.step hb1)
      have hbw1 := stepB hb hb1
      clear hown1 HWR HA HH k1 hb1
      by_cases hfit : T.length ≤ cut
      · have hdT : decide ((T.length : Int) ≤ (cut : Int)) = true := decide_eq_true (by omega)
        obtain ⟨hqj, hW2⟩ := HW.out.fits (by rw [← HTT.out]; exact hfit)
        subst hqj
        have HW2 := Lib.hid hW2
        clear hW2 HW
        go_wp2_with first | (at_builtin; refine wpList_appB2 w1 rfl (.tmp 25) (.tmp 30) rfl w.heap.size u5 C R A2 c2 rfl HA1.out rfl w1.heap.size hsl2 w hbw1 hbw1.size (by omega) u6 (vs.take q) HH1.out ?_; intro v3 w3 hown3 hwh3 hb3 hB3; rw [← HCS.out] at hown3; obtain ⟨A3, c3, rfl, hc3, hsl3⟩ := hown3.ret; have k3 := (hb3.cell (p := ⟨b, o + q, none⟩) hbB).trans K0.out) | (at_builtin; go_must (refine wpList_appV2 w3 rfl (.tmp 36) (.tmp 41) rfl w.heap.size u6 (vs.take q) A1 nx c1 rfl hwh3 rfl w hb3 hB3 (by rw [List.length_take]; omega) _ T hown3 ?_); intro v4 w4 hwh4 hown4 hb4 hB4; rw [← HVT.out] at hwh4)
        exact ⟨⟨q + 1, q + 1, by omega, by go_num, by rw [← HTT.out], HW2.out, by rw [← HTT.out]; exact hown4, hwh4, hb4⟩, by simp [intOf]; omega⟩
      · have hdT : decide ((T.length : Int) ≤ (cut : Int)) = false := decide_eq_false (by omega)
        have hW2 := HW.out.not (by rw [← HTT.out]; omega)
        have HW2 := Lib.hid hW2
        clear hW2 HW
        go_wp2_with (at_builtin; go_must (refine wpList_appB2 w1 rfl (.tmp 25) (.tmp 30) rfl w.heap.size u5 C R A2 c2 rfl HA1.out rfl w1.heap.size hsl2 w hbw1 hbw1.size (by omega) u6 (vs.take q) HH1.out ?_); intro v3 w3 hown3 hwh3 hb3 hB3; rw [← HCS.out] at hown3; obtain ⟨A3, c3, rfl, hc3, hsl3⟩ := hown3.ret)
        exact ⟨⟨j + 1, q, by omega, by go_num, rfl, HW2.out, by rw [← HTT.out]; exact hown3, hwh3, hb3⟩, by simp [intOf]; omega⟩
    · obtain rfl : j = vs.length := by omega
      obtain ⟨A3, c3, rfl, hc3, hsl3⟩ := HA.out.ret
      have htk : xs.take vs.length = xs := List.take_of_length_le (by have := HVL.out; omega)
      rw [htk] at hcj hc3 hsl3 HA ⊢
      have hcat := fun h => all_torn' H6.out (cut := cut) (q := q) (by have := HW.out; rwa [HVL.out] at this) h
      generalize hC : cat xs = C at *
      by_cases hcl : C.length < cut
      · have d1 : decide ((C.length : Int) < (cut : Int)) = true := decide_eq_true (by omega)
        clear hcat hsl3 hC
        go_wp2_with fail
        refine (awake4_any _).mono ?_
        rintro e w1 ⟨rfl, hb1⟩
        go_wp2_with fail
        go_ret
        exact ⟨rfl, stepB hb hb1⟩
      · have d1 : decide ((C.length : Int) < (cut : Int)) = false := decide_eq_false (by omega)
        have hall := hcat (by omega)
        obtain ⟨A4, hs4, hcl4⟩ := slice_h A3 c3 C cut (by omega) hc3
        have htl : (C.take cut).length = cut := by rw [List.length_take]; omega
        have HAL := Lib.hid (all_any A4 c3 (C.take cut) wr (hcl4 wr _ hsl3) (by rw [htl]; omega) (by rw [htl]; omega))
        rw [hall, htl] at HAL
        rw [htl] at hs4
        have hels := (HO.out.below hb).els hB q
        obtain ⟨A5, c5, rfl, hc5, hsl5⟩ := HH.out.ret
        obtain ⟨eq5, heq5⟩ : ∃ n, (vs.take q).length = n := ⟨_, rfl⟩
        have HEL := Lib.hid hels
        have HS5 := Lib.hid hsl5
        have HXL : Hid ((xs.take q).length ≤ 9223372036854775807) := Lib.hid (by rw [List.length_take]; have := HVL.out; omega)
        have HQ5 := Lib.hid heq5
        rw [heq5] at hc5 ⊢
        generalize (cat (xs.take q)).length = en at HAL ⊢
        clear hcat hsl3 hcl4 hall hels hsl5 heq5 hC HA HH
        go_wp2_with fail
        refine HAL.out.mono ?_
        rintro e w1 ⟨v1, vs1, rfl, hown1, hels1, hb1⟩
        obtain ⟨A6, c6, rfl, _, hsl6⟩ := hown1.ret
        have cs := sameV_any A6 A5 c6 c5 vs1 (vs.take q) (xs.take q) (xs.take q) w1 _ _ hsl6 (HS5.out.step hb1) hels1 (HEL.out.step hb1) HXL.out
        rw [decide_eq_true rfl, HQ5.out] at cs
        have CS := Lib.hid cs
        have hb1' := stepB hb hb1
        clear cs hown1 hels1 hsl6 HAL hb1 HEL HS5
        dsimp only
        go_wp2_with fail
        refine CS.out.mono ?_
        rintro e w2 ⟨rfl, hb2⟩
        go_wp2_with fail
        refine (awake4_any _).mono ?_
        rintro e w3 ⟨rfl, hb3⟩
        go_wp2_with fail
        go_ret
        exact ⟨rfl, stepB (stepB hb1' hb2) hb3⟩

end Go.Proofs.Ytijdfadmmloclab
