/-
  What All of the specification of frame answers, and Same of lists of byte lists; FrameAlls. Conditions: so many bytes fit a slice.
-/
import Derived.Test.YtijdfadmmloclabAll
namespace Go.Proofs.Ytijdfadmmloclab
open Go.RowKit

/-! ### Same of lists of byte lists -/
def SameUptoB (xs ys : List (List UInt8)) (i : Nat) : Prop := ∀ j, j < i → xs[j]? = ys[j]?
theorem SameUptoB.succ {xs ys : List (List UInt8)} {i : Nat} (h : SameUptoB xs ys i) (hi : xs[i]? = ys[i]?) : SameUptoB xs ys (i + 1) := fun j hj => by
  rcases Nat.lt_succ_iff_lt_or_eq.1 hj with h' | h'
  · exact h j h'
  · subst h'; exact hi
theorem SameUptoB.all {xs ys : List (List UInt8)} (h : SameUptoB xs ys xs.length) (hl : xs.length = ys.length) : decide (xs = ys) = true := by
  refine decide_eq_true (List.ext_getElem? fun j => ?_)
  by_cases hj : j < xs.length
  · exact h j hj
  · rw [List.getElem?_eq_none (by omega), List.getElem?_eq_none (by omega)]
theorem sameV_len {xs ys : List (List UInt8)} (h : xs.length ≠ ys.length) : decide (xs = ys) = false := decide_eq_false (fun e => h (by rw [e]))
theorem sameV_hit {xs ys : List (List UInt8)} {i : Nat} {x y : List UInt8} (h : (!(bs x).toList == (bs y).toList) = true) (hx : xs[i]? = some x) (hy : ys[i]? = some y) : decide (xs = ys) = false := by
  refine decide_eq_false (fun e => ?_)
  rw [e, hy] at hx
  obtain rfl := Option.some.inj hx
  simp at h
theorem sameV_miss {xs ys : List (List UInt8)} {i : Nat} {x y : List UInt8} (h : (!(bs x).toList == (bs y).toList) = false) (hx : xs[i]? = some x) (hy : ys[i]? = some y) : xs[i]? = ys[i]? := by
  rw [bs_dec] at h
  have e : x = y := by simpa using h
  rw [hx, hy, e]

set_option maxHeartbeats 1000000 in
theorem sameV_any (A A' : Option Addr) (c c' : Nat) (vs vs' : List Value) (xs ys : List (List UInt8)) (w : World) (B B' : Nat) (h : CL id w w.heap.size A vs) (h' : CL id w w.heap.size A' vs') (he : Els w B vs xs) (he' : Els w B' vs' ys) (hx63 : xs.length ≤ 9223372036854775807) :
    Calls Try.prog 14 #[.slice A vs.length c, .slice A' vs'.length c'] w fun e w' => e = .returned (.bool (decide (xs = ys))) ∧ Below w.heap.size w w' := by
  have hel := he.1
  have hel' := he'.1
  by_cases hl : xs.length = ys.length
  · have hb : ((vs.length : Int) != (vs'.length : Int)) = false := by simp; omega
    have HLN := Lib.hid hl
    have HEL := Lib.hid hel
    have HEL' := Lib.hid hel'
    have hyl : ¬ ((vs'.length : Int) < (vs.length : Int)) := by omega
    have hyl2 : ¬ ((vs.length : Int) < (vs'.length : Int)) := by omega
    have HV : vs.length ≤ 9223372036854775807 := by omega
    clear hl hel hel'
    have HS := Lib.hid h
    have HS' := Lib.hid h'
    have HE := Lib.hid he
    have HE' := Lib.hid he'
    clear h h' he he'
    go_enter Try.func14, Try.ntmps14
    go_wp2
    go_loopw [5] (fun v wr => ∃ (i n : Nat), i ≤ vs.length ∧ v = .int .i64 i ∧ SameUptoB xs ys i ∧ wr = w.drewN n) (fun v _ => vs.length - (intOf v).toNat)
    case atStart => exact ⟨0, 0, by omega, rfl, fun _ h => absurd h (Nat.not_lt_zero _), rfl⟩
    case round =>
      obtain ⟨i, n, hi, rfl, hno, rfl⟩ := hrel
      have HN := Lib.hid hno
      clear hno
      by_cases hlt : i < vs.length
      · have hlt' : i < vs'.length := by have := HLN.out; have := HEL.out; have := HEL'.out; omega
        obtain ⟨b, o, rfl, hbB, hc⟩ := HS.out (by omega)
        obtain ⟨b', o', rfl, hbB', hc'⟩ := HS'.out (by omega)
        obtain ⟨v, hv⟩ : ∃ x, vs[i]? = some x := ⟨_, List.getElem?_eq_getElem hlt⟩
        obtain ⟨v', hv'⟩ : ∃ x, vs'[i]? = some x := ⟨_, List.getElem?_eq_getElem hlt'⟩
        obtain ⟨x, hx⟩ : ∃ x, xs[i]? = some x := ⟨_, List.getElem?_eq_getElem (by have := HEL.out; omega)⟩
        obtain ⟨y, hy⟩ : ∃ y, ys[i]? = some y := ⟨_, List.getElem?_eq_getElem (by have := HEL'.out; omega)⟩
        have k1 := hc i v hv
        have k2 := hc' i v' hv'
        obtain ⟨A1, c1, rfl, _, t1⟩ := HE.out.2 i v x hv hx
        obtain ⟨A2, c2, rfl, _, t2⟩ := HE'.out.2 i v' y hv' hy
        simp only [id] at k1 k2
        have cv1 : ∀ n, (convert 22 9 (.slice A1 x.length c1)).run Try.prog (w.drewN n) = .ok (.string (bs x)) (w.drewN n) := fun n => conv_str (t1.step (below_drewN' w n)).cl c1
        have cv2 : ∀ n, (convert 22 9 (.slice A2 y.length c2)).run Try.prog (w.drewN n) = .ok (.string (bs y)) (w.drewN n) := fun n => conv_str (t2.step (below_drewN' w n)).cl c2
        have HX := Lib.hid hx
        have HY := Lib.hid hy
        have hin : (i : Int) < (vs.length : Int) := by omega
        have hin' : (i : Int) < (vs'.length : Int) := by omega
        clear hc hc' hx hy hv hv' HS HS' t1 t2 HE HE'
        have HSX := Lib.hid (fun h => @sameV_hit xs ys i x y h HX.out HY.out)
        have HSM := Lib.hid (fun h => @sameV_miss xs ys i x y h HX.out HY.out)
        clear HX HY
        generalize bs x = sx at cv1 HSX HSM
        generalize bs y = sy at cv2 HSX HSM
        generalize x.length = nx at k1 cv1
        generalize y.length = ny at k2 cv2
        go_wp2
        go_quiet (fail)
        go_wp2
        · go_ret
          exact ⟨retb (HSX.out (by assumption)).symm, by rw [World.drewN_drewN]; exact below_drewN' _ _⟩
        · exact ⟨⟨i + 1, _, by omega, by go_num, HN.out.succ (HSM.out (by assumption)), rfl⟩, by simp [intOf]; omega⟩
      · have HZ := Lib.hid (show i = xs.length by have := HEL.out; omega)
        go_wp2
        go_ret
        exact ⟨retb (SameUptoB.all (by rw [← HZ.out]; exact HN.out) HLN.out).symm, below_drewN' _ _⟩
  · have hb : ((vs.length : Int) != (vs'.length : Int)) = true := by simp; omega
    have HLN := Lib.hid (sameV_len hl)
    clear hl h h' he he' hel hel'
    go_enter Try.func14, Try.ntmps14
    go_wp2
    go_ret
    exact ⟨retb HLN.out.symm, Below.refl _ _⟩

theorem allF_len {l : List UInt8} : ∀ (f p : Nat) (acc : List (List UInt8)), acc.length ≤ p → p ≤ l.length → (allF f l p acc).1.length ≤ l.length := by
  intro f
  induction f with
  | zero => intro p acc h1 h2; simp [allF]; omega
  | succ f ih =>
    intro p acc h1 h2
    rw [allF]
    split
    · next hlt =>
      generalize hr : nextR l p = r
      obtain ⟨T, nx, e⟩ := r
      dsimp only
      split
      · simp; omega
      · next h0 =>
        obtain rfl : e = 0 := by omega
        obtain ⟨k, j, q1, rfl, q2, q3, _⟩ := nextR_ok hr
        rw [Int.toNat_natCast]
        exact ih _ _ (by simp; omega) (by omega)
    · simp; omega

end Go.Proofs.Ytijdfadmmloclab
