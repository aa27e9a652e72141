/-
  What inbound's functions on sorted lists of identifiers answer. Conditions: the list reads as data; where it is searched, it ascends and has few elements.
-/
import Derived.Test.YtomlideijhejfaaDoorIdI
namespace Go.Proofs.YtomlideijhejfaaDoor.S2
open Go.RowKit

/-- an inbox by value -/
abbrev xv (A : Option Addr) (c : Nat) (X : List Int) : Value := .agg #[.slice A X.length c]
theorem boxSize : (Tryd.prog.info? 53).map (·.size) = some 1 := by kernel_rfl

set_option maxRecDepth 20000 in
set_option maxHeartbeats 4000000 in
theorem nCheck_any (A : Option Addr) (c : Nat) (X : List Int) (w : World) (hsl : IL w w.heap.size A X) (hX : X.length ≤ 9223372036854775807) :
    Calls Tryd.prog 16 #[xv A c X] w fun e w' => e = .returned (.int .i64 (ckI X 0)) ∧ Below w.heap.size w w' := by
  unfold ckI
  by_cases h32 : 32 < X.length
  · rw [if_pos h32]
    have hd : decide ((32 : Int) < (X.length : Int)) = true := decide_eq_true (by omega)
    clear h32 hsl
    go_enter Tryd.func16, Tryd.ntmps16
    go_wp2
    go_ret
    exact ⟨rfl, below_new w _⟩
  rw [if_neg h32]
  have hd : decide ((32 : Int) < (X.length : Int)) = false := decide_eq_false (by omega)
  have HS := Lib.hid hsl
  obtain ⟨R, hR⟩ : ∃ R, upI 0 X = R := ⟨_, rfl⟩
  rw [hR]
  have HR := Lib.hid hR
  have HZ : Hid ((if R = true then (if (0 : Int) ≤ 0 ∧ (0 : Int) ≤ 65535 then (0 : Int) else 1) else 15) = if R = true then 0 else 15) := Lib.hid (by cases R <;> simp)
  rw [HZ.out]
  obtain ⟨C, hC⟩ : ∃ C : Int, (if R = true then 0 else 15) = C := ⟨_, rfl⟩
  rw [hC]
  have HC := Lib.hid hC
  clear hsl hR h32 HZ hC
  go_enter Tryd.func16, Tryd.ntmps16
  go_wp2
  obtain ⟨W0, hW0⟩ : ∃ W0, W0 = w.alloc (.cells #[.slice A X.length c] 53) := ⟨_, rfl⟩
  rw [← hW0]
  have hB0 : Below w.heap.size w W0 := by rw [hW0]; exact (Below.refl _ _).alloc (Nat.le_refl _) _
  have HB0 := Lib.hid hB0
  clear hW0 hB0
  go_loopg [3, 13] X.length (fun g u3 v wr => ∃ (k : Nat) (p : Int), k + g = X.length ∧ v = .int .i64 k ∧ u3 = .int .i64 p ∧ R = upI p (X.drop k) ∧ Below w.heap.size w wr)
  case atStart => exact ⟨0, 0, by omega, rfl, rfl, by rw [List.drop_zero]; exact HR.out.symm, HB0.out⟩
  case round =>
    obtain ⟨k, p, hkg, rfl, rfl, hrel, hb0⟩ := hrel
    have HREL := Lib.hid hrel
    have HG := Lib.hid hkg
    have HB := Lib.hid hb0
    clear hrel HR
    cases gk with
    | zero =>
      obtain rfl : k = X.length := by omega
      have HF : Hid (C = 0) := Lib.hid (by rw [← HC.out, HREL.out, List.drop_length]; rfl)
      have e3 : decide ((X.length : Int) < (X.length : Int)) = false := decide_eq_false (by omega)
      clear hkg hb0
      go_wp2
      go_ret
      exact ⟨by rw [HF.out]; rfl, HB.out⟩
    | succ g =>
      have hlt : k < X.length := by omega
      have e3 : decide ((k : Int) < (X.length : Int)) = true := decide_eq_true (by omega)
      obtain ⟨x, hx⟩ : ∃ x, X[k]? = some x := ⟨_, List.getElem?_eq_getElem hlt⟩
      obtain ⟨b, o, hA, hbB, kv⟩ := IL.at_ (HS.out.step hb0) hx
      subst hA
      have j1 : (0 : Int) ≤ (k : Int) := by omega
      have j2 : (k : Int) < (X.length : Int) := by omega
      have HU : Hid (R = (decide (p < x) && decide (x ≤ 65535) && upI x (X.drop (k + 1)))) := Lib.hid (by rw [HREL.out, dropI hx, upI_cons])
      clear hx hkg hlt hbB hb0
      by_cases h1 : x ≤ p
      · have q1 : decide (x ≤ p) = true := decide_eq_true h1
        have HF : Hid (C = 15) := Lib.hid (by rw [← HC.out, HU.out, decide_eq_false (by omega)]; rfl)
        clear h1
        go_wp2
        go_ret
        exact ⟨by rw [HF.out]; rfl, HB.out⟩
      have q1 : decide (x ≤ p) = false := decide_eq_false h1
      by_cases h2 : 65535 < x
      · have q2 : decide (65535 < x) = true := decide_eq_true h2
        have HF : Hid (C = 15) := Lib.hid (by rw [← HC.out, HU.out, decide_eq_false (p := x ≤ 65535) (by omega)]; simp)
        clear h1 h2
        go_wp2
        go_ret
        exact ⟨by rw [HF.out]; rfl, HB.out⟩
      have q2 : decide (65535 < x) = false := decide_eq_false h2
      have HF : Hid (R = upI x (X.drop (k + 1))) := Lib.hid (by rw [HU.out, decide_eq_true (p := p < x) (by omega), decide_eq_true (p := x ≤ 65535) (by omega)]; rfl)
      clear h1 h2
      go_wp2
      go_roundg g
      case measure => omega
      case rel => exact ⟨k + 1, x, by have := HG.out; omega, rfl, rfl, HF.out, HB.out⟩

set_option maxRecDepth 20000 in
set_option maxHeartbeats 2000000 in
theorem nHas_any (A : Option Addr) (c : Nat) (X : List Int) (n : Int) (w : World) (hsl : IL w w.heap.size A X) (hv : ckI X 0 = 0) :
    Calls Tryd.prog 19 #[xv A c X, .int .i64 n] w fun e w' => e = .returned (.bool (decide (n ∈ X))) ∧ Below w.heap.size w w' := by
  have HC := Lib.hid (searchI_any A c X n 0 _ (CL.step hsl (below_new w (.cells #[.slice A X.length c] 53))) (by have := (ck_ok.1 hv).1; omega) (ck_ok.1 hv).2.1)
  generalize decide (n ∈ X) = R at HC ⊢
  generalize posI X n = p at HC
  have hm : X.length ≤ 1000000 := by have := (ck_ok.1 hv).1; omega
  clear hsl hv
  go_enter Tryd.func19, Tryd.ntmps19
  go_wp2_with fail
  refine HC.out.mono ?_
  rintro e w' ⟨rfl, q, rfl⟩
  go_wp2
  go_ret
  exact ⟨rfl, stepB (below_new w _) (bDN _ _)⟩

/-- a list with an identifier, which may be there -/
def withI (X : List Int) (n : Int) : List Int := if n ∈ X then X else insI X n

set_option maxRecDepth 20000 in
set_option maxHeartbeats 4000000 in
theorem nWithout_any (A : Option Addr) (c : Nat) (X : List Int) (n : Int) (w : World) (hsl : IL w w.heap.size A X) (hm : X.length ≤ 1000000) (hup : upI 0 X = true) :
    Calls Tryd.prog 51 #[.slice A X.length c, .int .i64 n] w (RetIs (delI X n) w) := by
  have HS := Lib.hid hsl
  have HF := Lib.hid (fun A c w hs => searchI_any A c X n 0 w hs hm hup)
  have HC := Lib.hid (fun w hs => cloneI_any A c X w hs hm)
  by_cases hmem : n ∈ X
  · obtain ⟨hp, he⟩ := del_pos hup hmem
    rw [decide_eq_true hmem] at HF
    have HP := Lib.hid hp
    have HE := Lib.hid he
    generalize posI X n = p at HF HP HE
    generalize delI X n = R at HE ⊢
    have hwp : IntKind.i64.wrap ((p : Int) + 1) = (p : Int) + 1 := by rw [IntKind.wrap_i64]; have := HP.out; omega
    have hwp2 : wrap64 ((p : Int) + 1) = (p : Int) + 1 := wrap64_id _ (by have := HP.out; omega) (by have := HP.out; omega)
    clear hsl hup hm hmem hp he
    go_enter Tryd.func51, Tryd.ntmps51
    go_wp2_with fail
    refine (HC.out _ HS.out).mono ?_
    rintro e w1 ⟨v1, rfl, hown1, hb1⟩
    obtain ⟨A1, c1, hv1, hc1, hsl1, hfr1⟩ := hown1.retB
    subst hv1
    have HO := Lib.hid hown1
    have H1 := Lib.hid (hsl1 w1 (Nat.le_refl _) (fun _ _ => rfl))
    have HB1 := Lib.hid hb1
    clear hb1 hown1 hsl1 hc1 hfr1 HC
    go_wp2_with fail
    refine (HF.out _ _ _ H1.out).mono ?_
    rintro e w2 ⟨rfl, q, hq⟩
    have hb2 : Below w1.heap.size w1 w2 := by rw [hq]; exact bDN _ _
    clear hq
    have HB2 := Lib.hid (stepB HB1.out hb2)
    have HO2 := Lib.hid (HO.out.step hb2)
    have HD := Lib.hid (deleteI_any (.slice A1 X.length c1) X p w2 w.heap.size HO2.out HP.out)
    rw [← HE.out] at HD
    clear hb2 HB1 HF HO HO2
    go_wp2_with fail
    refine HD.out.mono ?_
    rintro e w3 ⟨v3, rfl, hown3, hb3⟩
    have HB3 := Lib.hid (HB2.out.trans hb3)
    have HO3 := Lib.hid hown3
    clear hb3 hown3 HD HB2
    go_wp2
    go_ret
    exact ⟨_, rfl, HO3.out, HB3.out⟩
  · have he := del_id hmem
    rw [decide_eq_false hmem] at HF
    rw [he]
    generalize posI X n = p at HF
    clear hsl hup hm hmem he
    go_enter Tryd.func51, Tryd.ntmps51
    go_wp2_with fail
    refine (HC.out _ HS.out).mono ?_
    rintro e w1 ⟨v1, rfl, hown1, hb1⟩
    obtain ⟨A1, c1, hv1, hc1, hsl1, hfr1⟩ := hown1.retB
    subst hv1
    have HO := Lib.hid hown1
    have H1 := Lib.hid (hsl1 w1 (Nat.le_refl _) (fun _ _ => rfl))
    have HB1 := Lib.hid hb1
    clear hb1 hown1 hsl1 hc1 hfr1 HC
    go_wp2_with fail
    refine (HF.out _ _ _ H1.out).mono ?_
    rintro e w2 ⟨rfl, q, hq⟩
    have hb2 : Below w1.heap.size w1 w2 := by rw [hq]; exact bDN _ _
    clear hq
    have HB2 := Lib.hid (stepB HB1.out hb2)
    have HO2 := Lib.hid (HO.out.step hb2)
    clear hb2 HB1 HF HO
    go_wp2
    go_ret
    exact ⟨_, rfl, HO2.out, HB2.out⟩

set_option maxRecDepth 20000 in
set_option maxHeartbeats 4000000 in
theorem nWith_any (A : Option Addr) (c : Nat) (X : List Int) (n : Int) (w : World) (hsl : IL w w.heap.size A X) (hm : X.length ≤ 1000000) (hup : upI 0 X = true) :
    Calls Tryd.prog 77 #[.slice A X.length c, .int .i64 n] w (RetIs (withI X n) w) := by
  have HS := Lib.hid hsl
  have HF := Lib.hid (fun A c w hs => searchI_any A c X n 0 w hs hm hup)
  have HC := Lib.hid (fun w hs => cloneI_any A c X w hs hm)
  unfold withI
  by_cases hmem : n ∈ X
  · rw [decide_eq_true hmem] at HF
    rw [if_pos hmem]
    generalize posI X n = p at HF
    clear hsl hup hm hmem
    go_enter Tryd.func77, Tryd.ntmps77
    go_wp2_with fail
    refine (HC.out _ HS.out).mono ?_
    rintro e w1 ⟨v1, rfl, hown1, hb1⟩
    obtain ⟨A1, c1, hv1, hc1, hsl1, hfr1⟩ := hown1.retB
    subst hv1
    have HO := Lib.hid hown1
    have H1 := Lib.hid (hsl1 w1 (Nat.le_refl _) (fun _ _ => rfl))
    have HB1 := Lib.hid hb1
    clear hb1 hown1 hsl1 hc1 hfr1 HC
    go_wp2_with fail
    refine (HF.out _ _ _ H1.out).mono ?_
    rintro e w2 ⟨rfl, q, hq⟩
    have hb2 : Below w1.heap.size w1 w2 := by rw [hq]; exact bDN _ _
    clear hq
    have HB2 := Lib.hid (stepB HB1.out hb2)
    have HO2 := Lib.hid (HO.out.step hb2)
    clear hb2 HB1 HF HO
    go_wp2
    go_ret
    exact ⟨_, rfl, HO2.out, HB2.out⟩
  · rw [decide_eq_false hmem] at HF
    rw [if_neg hmem]
    have HP := Lib.hid (pos_le X n)
    have HE := Lib.hid (ins_pos (n := n) hup)
    have HM := Lib.hid hm
    generalize posI X n = p at HF HP HE
    generalize insI X n = R at HE ⊢
    clear hsl hup hm hmem
    go_enter Tryd.func77, Tryd.ntmps77
    go_wp2_with fail
    refine (HC.out _ HS.out).mono ?_
    rintro e w1 ⟨v1, rfl, hown1, hb1⟩
    obtain ⟨A1, c1, hv1, hc1, hsl1, hfr1⟩ := hown1.retB
    subst hv1
    have HO := Lib.hid hown1
    have H1 := Lib.hid (hsl1 w1 (Nat.le_refl _) (fun _ _ => rfl))
    have HB1 := Lib.hid hb1
    clear hb1 hown1 hsl1 hc1 hfr1 HC
    go_wp2_with fail
    refine (HF.out _ _ _ H1.out).mono ?_
    rintro e w2 ⟨rfl, q, hq⟩
    have hb2 : Below w1.heap.size w1 w2 := by rw [hq]; exact bDN _ _
    clear hq
    have HB2 := Lib.hid (stepB HB1.out hb2)
    have HO2 := Lib.hid (HO.out.step hb2)
    have HI := Lib.hid (insertI_any (.slice A1 X.length c1) X p n (w2.alloc (.cells #[.int .i64 n] 3)) w.heap.size w2.heap.size (HO2.out.alloc _) (BK.new w2 3 [iv n]) (own_apart HO2.out) (by have := HB2.out.size; simp; omega) HP.out HM.out)
    rw [← HE.out] at HI
    clear hb2 HB1 HF HO HO2
    go_wp2_with fail
    refine HI.out.mono ?_
    rintro e w5 ⟨v5, rfl, hown5, hb5⟩
    have HB5 := Lib.hid ((HB2.out.alloc HB2.out.size (.cells #[.int .i64 n] 3)).trans hb5)
    have HO5 := Lib.hid hown5
    clear hb5 hown5 HI HB2
    go_wp2
    go_ret
    exact ⟨_, rfl, HO5.out, HB5.out⟩
end Go.Proofs.YtomlideijhejfaaDoor.S2
