/-
  What All of the specification of frame answers, and Same of lists of byte lists; FrameAlls. Conditions: so many bytes fit a slice.
-/
import Derived.Test.YtijdfadmmloclaaAll
namespace Go.Proofs.Ytijdfadmmloclaa
open Go.RowKit

set_option maxHeartbeats 2000000 in
theorem rAll_any (A : Option Addr) (c : Nat) (l : List UInt8) (w : World) (hsl : CL bv w w.heap.size A l) (hc : l.length ≤ c) (hn : l.length ≤ 1099511627776) :
    Calls Try.prog 46 #[.slice A l.length c] w (RetAll (allR l) w) := by
  have HN : Hid (∀ (q : Nat) (wr : World), q ≤ l.length → Below w.heap.size w wr → Calls Try.prog 44 #[.slice A l.length c, .int .i64 (q : Int)] wr (RetN (nextR l q) wr)) :=
    Lib.hid (fun q wr hq hb => rNext_any A c l q (by omega) (by omega) wr ((hsl.below hb).more hb.size) hc (by omega))
  generalize hR : allR l = R
  unfold allR at hR
  have HR := Lib.hid hR
  clear hR hsl hc
  go_enter Try.func46, Try.ntmps46
  go_wp2_with fail
  go_loopw [4, 5, 6, 7, 8] (fun ls q _ _ _ wr => ∃ (f p : Nat) (acc : List (List UInt8)) (vs : List Value), q = .int .i64 p ∧ p ≤ l.length ∧ l.length + 1 ≤ f + p ∧ acc.length ≤ p ∧ allF f l p acc = R ∧ Own 22 id wr w.heap.size ls vs ∧ Els wr w.heap.size vs acc ∧ Below w.heap.size w wr) (fun _ q _ _ _ _ => l.length - (intOf q).toNat)
  case atStart => exact ⟨l.length + 1, 0, [], [], rfl, by omega, by omega, by simp, HR.out, Own.nil _ _, Els.nil _ _, Below.refl _ _⟩
  case round =>
    obtain ⟨f, p, acc, vs, rfl, hp, hf, hacc, hrel, hown, hels, hb⟩ := hrel
    have HO := Lib.hid hown
    have HE := Lib.hid hels
    clear hown hels HR
    by_cases hlt : p < l.length
    · obtain ⟨f, rfl⟩ : ∃ f', f = f' + 1 := ⟨f - 1, by omega⟩
      rw [allF, if_pos hlt] at hrel
      have hnx := HN.out p wr hp hb
      have hok := fun T nx => @nextR_ok l p nx T
      generalize nextR l p = r at hrel hnx hok
      obtain ⟨T, nx, er⟩ := r
      have HX := Lib.hid hnx
      have hrel' := hrel
      dsimp only at hrel'
      have hB := hb.size
      by_cases he : er = 0
      · subst he
        obtain ⟨k, j, q1, rfl, q2, q3, q4, _, _, _⟩ := hok T nx rfl
        obtain rfl : p = k := by omega
        rw [if_neg (by simp), Int.toNat_natCast] at hrel'
        have HREL := Lib.hid hrel'
        clear hrel hrel' hnx hok q1
        generalize hp2 : p + j + 4 + T.length = p2 at *
        have hlt2 : p < p2 := by omega
        have HF := Lib.hid hf
        clear hp2 hf q4 q2
        go_wp2_with fail
        refine HX.out.mono ?_
        rintro e w1 ⟨v1, rfl, hown1, hb1⟩
        obtain ⟨A1, c1, rfl, hc1, htl⟩ := TL.own (B' := w.heap.size) hown1
        obtain ⟨t, ht⟩ : ∃ t, T.length = t := ⟨_, rfl⟩
        rw [ht] at hc1 ⊢
        have HT := Lib.hid ht
        have HO1 := Lib.hid (HO.out.step hb1)
        have HE1 := Lib.hid (HE.out.step hb1)
        have HB1 := Lib.hid (stepB hb hb1)
        have hlv : vs.length ≤ 1099511627776 := by have := HE.out.1; omega
        clear hown1 hb1 HX ht HO HE
        dsimp only
        go_wp2_with (at_builtin; go_must (refine wpList_appV w1 rfl _ _ rfl w.heap.size u4 vs A1 t c1 rfl HO1.out rfl w HB1.out HB1.out.size hlv ?_); intro v2 w2 hown2 hkeep2 hb2 hB2)
        exact ⟨⟨f, p2, acc ++ [T], vs ++ [.slice A1 t c1], rfl, q3, by have := HF.out; omega, by simp; omega, HREL.out, hown2, (HE1.out.snoc HT.out hc1 htl).keep hkeep2, hb2⟩, by simp [intOf]; omega⟩
      · rw [if_pos he] at hrel'
        have HREL := Lib.hid hrel'
        have hbe : (er != 0) = true := by simp [he]
        clear hrel hrel' hnx hok he
        go_wp2_with fail
        refine HX.out.mono ?_
        rintro e w1 ⟨v1, rfl, hown1, hb1⟩
        have HO1 := Lib.hid (HO.out.step hb1)
        have HE1 := Lib.hid (HE.out.step hb1)
        have HB1 := Lib.hid (stepB hb hb1)
        clear hown1 hb1 HX HO HE
        dsimp only
        go_wp2_with fail
        go_ret2
        rw [← HREL.out]
        exact ⟨_, vs, rfl, HO1.out, HE1.out, HB1.out⟩
    · have hRR : allF f l p acc = (acc, p) := by
        cases f with
        | zero => rfl
        | succ f => rw [allF, if_neg hlt]
      rw [hRR] at hrel
      have HREL := Lib.hid hrel
      clear hrel hRR
      go_wp2_with fail
      go_ret2
      rw [← HREL.out]
      exact ⟨_, vs, rfl, HO.out, HE.out, hb⟩

/-! ### Same of lists of byte lists -/
def SameUptoB (xs ys : List (List UInt8)) (i : Nat) : Prop := ∀ j, j < i → xs[j]? = ys[j]?
theorem SameUptoB.succ {xs ys : List (List UInt8)} {i : Nat} (h : SameUptoB xs ys i) (hi : xs[i]? = ys[i]?) : SameUptoB xs ys (i + 1) := fun j hj => by
  rcases Nat.lt_succ_iff_lt_or_eq.1 hj with h' | h'
  · exact h j h'
  · subst h'; exact hi
theorem SameUptoB.all {xs ys : List (List UInt8)} (h : SameUptoB xs ys xs.length) (hl : xs.length = ys.length) : decide (xs = ys) = true := by
  refine decide_eq_true (List.ext_getElem? fun j => ?_)
  by_cases hj : j < xs.length
  · exact h j hj
  · rw [List.getElem?_eq_none (by omega), List.getElem?_eq_none (by omega)]
theorem sameV_len {xs ys : List (List UInt8)} (h : xs.length ≠ ys.length) : decide (xs = ys) = false := decide_eq_false (fun e => h (by rw [e]))
theorem sameV_hit {xs ys : List (List UInt8)} {i : Nat} {x y : List UInt8} (h : (!(bs x).toList == (bs y).toList) = true) (hx : xs[i]? = some x) (hy : ys[i]? = some y) : decide (xs = ys) = false := by
  refine decide_eq_false (fun e => ?_)
  rw [e, hy] at hx
  obtain rfl := Option.some.inj hx
  simp at h
theorem sameV_miss {xs ys : List (List UInt8)} {i : Nat} {x y : List UInt8} (h : (!(bs x).toList == (bs y).toList) = false) (hx : xs[i]? = some x) (hy : ys[i]? = some y) : xs[i]? = ys[i]? := by
  rw [bs_dec] at h
  have e : x = y := by simpa using h
  rw [hx, hy, e]

set_option maxHeartbeats 1000000 in
theorem sameV_any (A A' : Option Addr) (c c' : Nat) (vs vs' : List Value) (xs ys : List (List UInt8)) (w : World) (B B' : Nat) (h : CL id w w.heap.size A vs) (h' : CL id w w.heap.size A' vs') (he : Els w B vs xs) (he' : Els w B' vs' ys) (hx63 : xs.length ≤ 9223372036854775807) :
    Calls Try.prog 47 #[.slice A vs.length c, .slice A' vs'.length c'] w fun e w' => e = .returned (.bool (decide (xs = ys))) ∧ Below w.heap.size w w' := by
  have hel := he.1
  have hel' := he'.1
  by_cases hl : xs.length = ys.length
  · have hb : ((vs.length : Int) != (vs'.length : Int)) = false := by simp; omega
    have HLN := Lib.hid hl
    have HEL := Lib.hid hel
    have HEL' := Lib.hid hel'
    have hyl : ¬ ((vs'.length : Int) < (vs.length : Int)) := by omega
    have hyl2 : ¬ ((vs.length : Int) < (vs'.length : Int)) := by omega
    have HV : vs.length ≤ 9223372036854775807 := by omega
    clear hl hel hel'
    have HS := Lib.hid h
    have HS' := Lib.hid h'
    have HE := Lib.hid he
    have HE' := Lib.hid he'
    clear h h' he he'
    go_enter Try.func47, Try.ntmps47
    go_wp2
    go_loopw [5] (fun v wr => ∃ (i n : Nat), i ≤ vs.length ∧ v = .int .i64 i ∧ SameUptoB xs ys i ∧ wr = w.drewN n) (fun v _ => vs.length - (intOf v).toNat)
    case atStart => exact ⟨0, 0, by omega, rfl, fun _ h => absurd h (Nat.not_lt_zero _), rfl⟩
    case round =>
      obtain ⟨i, n, hi, rfl, hno, rfl⟩ := hrel
      have HN := Lib.hid hno
      clear hno
      by_cases hlt : i < vs.length
      · have hlt' : i < vs'.length := by have := HLN.out; have := HEL.out; have := HEL'.out; omega
        obtain ⟨b, o, rfl, hbB, hc⟩ := HS.out (by omega)
        obtain ⟨b', o', rfl, hbB', hc'⟩ := HS'.out (by omega)
        obtain ⟨v, hv⟩ : ∃ x, vs[i]? = some x := ⟨_, List.getElem?_eq_getElem hlt⟩
        obtain ⟨v', hv'⟩ : ∃ x, vs'[i]? = some x := ⟨_, List.getElem?_eq_getElem hlt'⟩
        obtain ⟨x, hx⟩ : ∃ x, xs[i]? = some x := ⟨_, List.getElem?_eq_getElem (by have := HEL.out; omega)⟩
        obtain ⟨y, hy⟩ : ∃ y, ys[i]? = some y := ⟨_, List.getElem?_eq_getElem (by have := HEL'.out; omega)⟩
        have k1 := hc i v hv
        have k2 := hc' i v' hv'
        obtain ⟨A1, c1, rfl, _, t1⟩ := HE.out.2 i v x hv hx
        obtain ⟨A2, c2, rfl, _, t2⟩ := HE'.out.2 i v' y hv' hy
        simp only [id] at k1 k2
        have cv1 : ∀ n, (convert 22 9 (.slice A1 x.length c1)).run Try.prog (w.drewN n) = .ok (.string (bs x)) (w.drewN n) := fun n => conv_str (t1.step (below_drewN' w n)).cl c1
        have cv2 : ∀ n, (convert 22 9 (.slice A2 y.length c2)).run Try.prog (w.drewN n) = .ok (.string (bs y)) (w.drewN n) := fun n => conv_str (t2.step (below_drewN' w n)).cl c2
        have HX := Lib.hid hx
        have HY := Lib.hid hy
        have hin : (i : Int) < (vs.length : Int) := by omega
        have hin' : (i : Int) < (vs'.length : Int) := by omega
        clear hc hc' hx hy hv hv' HS HS' t1 t2 HE HE'
        have HSX := Lib.hid (fun h => @sameV_hit xs ys i x y h HX.out HY.out)
        have HSM := Lib.hid (fun h => @sameV_miss xs ys i x y h HX.out HY.out)
        clear HX HY
        generalize bs x = sx at cv1 HSX HSM
        generalize bs y = sy at cv2 HSX HSM
        generalize x.length = nx at k1 cv1
        generalize y.length = ny at k2 cv2
        go_wp2
        go_quiet (fail)
        go_wp2
        · go_ret
          exact ⟨retb (HSX.out (by assumption)).symm, by rw [World.drewN_drewN]; exact below_drewN' _ _⟩
        · exact ⟨⟨i + 1, _, by omega, by go_num, HN.out.succ (HSM.out (by assumption)), rfl⟩, by simp [intOf]; omega⟩
      · have HZ := Lib.hid (show i = xs.length by have := HEL.out; omega)
        go_wp2
        go_ret
        exact ⟨retb (SameUptoB.all (by rw [← HZ.out]; exact HN.out) HLN.out).symm, below_drewN' _ _⟩
  · have hb : ((vs.length : Int) != (vs'.length : Int)) = true := by simp; omega
    have HLN := Lib.hid (sameV_len hl)
    clear hl h h' he he' hel hel'
    go_enter Try.func47, Try.ntmps47
    go_wp2
    go_ret
    exact ⟨retb HLN.out.symm, Below.refl _ _⟩

theorem allF_len {l : List UInt8} : ∀ (f p : Nat) (acc : List (List UInt8)), acc.length ≤ p → p ≤ l.length → (allF f l p acc).1.length ≤ l.length := by
  intro f
  induction f with
  | zero => intro p acc h1 h2; simp [allF]; omega
  | succ f ih =>
    intro p acc h1 h2
    rw [allF]
    split
    · next hlt =>
      generalize hr : nextR l p = r
      obtain ⟨T, nx, e⟩ := r
      dsimp only
      split
      · simp; omega
      · next h0 =>
        obtain rfl : e = 0 := by omega
        obtain ⟨k, j, q1, rfl, q2, q3, _⟩ := nextR_ok hr
        rw [Int.toNat_natCast]
        exact ih _ _ (by simp; omega) (by omega)
    · simp; omega

set_option maxHeartbeats 2000000 in
theorem frameAlls_walk (A : Option Addr) (c : Nat) (l : List UInt8) (w : World) (hsl : CL bv w w.heap.size A l) (hc : l.length ≤ c) (_hn : l.length ≤ 140737488355328) :
    Calls Try.prog 14 #[.slice A l.length c] w fun e w' => e = .returned (.bool true) ∧ Below w.heap.size w w' := by
  by_cases h600 : 600 < l.length
  · clear hsl
    go_enter Try.func14, Try.ntmps14
    go_wp2_with fail
    refine (awake4_any _).mono ?_
    rintro e w1 ⟨rfl, hb1⟩
    go_wp2_with fail
    go_ret
    exact ⟨rfl, hb1⟩
  · have HN := Lib.hid (fun w h => all_any A c l w h hc (by omega))
    have HR := Lib.hid (fun w h => rAll_any A c l w h hc (by omega))
    have hlen : (allR l).1.length ≤ 9223372036854775807 := Nat.le_trans (allF_len _ 0 [] (by simp) (by omega)) (by omega)
    generalize allR l = r at HN HR hlen
    obtain ⟨T, p⟩ := r
    have HS := Lib.hid hsl
    clear hsl hc
    go_enter Try.func14, Try.ntmps14
    go_wp2_with fail
    refine (HN.out w HS.out).mono ?_
    rintro e w1 ⟨v1, vs1, rfl, hown1, hels1, hb1⟩
    obtain ⟨A1, c1, rfl, _, hsl1⟩ := hown1.ret
    have HS1 := Lib.hid (HS.out.step hb1)
    clear hown1 HN HS
    dsimp only
    go_wp2_with fail
    refine (HR.out w1 HS1.out).mono ?_
    rintro e w2 ⟨v2, vs2, rfl, hown2, hels2, hb2⟩
    obtain ⟨A2, c2, rfl, _, hsl2⟩ := hown2.ret
    have cs := sameV_any A1 A2 c1 c2 vs1 vs2 T T w2 _ _ (hsl1.step hb2) hsl2 (hels1.step hb2) hels2 hlen
    rw [decide_eq_true rfl] at cs
    have CS := Lib.hid cs
    have hb2' := stepB hb1 hb2
    clear hown2 HR HS1 hsl1 hsl2 hb1 hb2 cs hels1 hels2
    dsimp only
    go_wp2_with fail
    refine CS.out.mono ?_
    rintro e w3 ⟨rfl, hb3⟩
    have hb3' := stepB hb2' hb3
    go_wp2_with fail
    refine (awake4_any _).mono ?_
    rintro e w7 ⟨rfl, hb7⟩
    go_wp2_with fail
    go_ret
    exact ⟨rfl, stepB hb3' hb7⟩

end Go.Proofs.Ytijdfadmmloclaa
