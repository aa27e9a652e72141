/-
  What the program's functions on pools answer. Conditions: the pool is valid; Check: any pool that reads as data.
-/
import Derived.Test.YtmcocepjdhpecabGreatDoorIdD
import Derived.Test.YtmcocepjdhpecabGreatDoorBlk
import Derived.Test.YtmcocepjdhpecabGreatDoorInsI
import Derived.Test.YtmcocepjdhpecabGreatDoorIdH
namespace Go.Proofs.YtmcocepjdhpecabGreatDoor.S2
open Go.RowKit

set_option maxRecDepth 20000 in
set_option maxHeartbeats 2000000 in
theorem iAsc_any (A : Option Addr) (c : Nat) (X : List Int) (w : World) (hsl : IL w w.heap.size A X) (hX : X.length ≤ 9223372036854775807) :
    Calls Tryz.prog 67 #[.slice A X.length c] w fun e w' => e = .returned (.bool (upI 0 X)) ∧ Below w.heap.size w w' := by
  have HS := Lib.hid hsl
  obtain ⟨R, hR⟩ : ∃ R, upI 0 X = R := ⟨_, rfl⟩
  rw [hR]
  have HR := Lib.hid hR
  clear hsl hR
  go_enter Tryz.func67, Tryz.ntmps67
  go_wp2
  go_loopg [3, 8] X.length (fun g u3 v wr => ∃ (k : Nat) (p : Int), k + g = X.length ∧ v = .int .i64 k ∧ u3 = .int .i64 p ∧ R = upI p (X.drop k) ∧ Below w.heap.size w wr)
  case atStart => exact ⟨0, 0, by omega, rfl, rfl, by rw [List.drop_zero]; exact HR.out.symm, Below.refl _ _⟩
  case round =>
    obtain ⟨k, p, hkg, rfl, rfl, hrel, hb0⟩ := hrel
    have HREL := Lib.hid hrel
    have HG := Lib.hid hkg
    have HB := Lib.hid hb0
    clear hrel HR
    cases gk with
    | zero =>
      obtain rfl : k = X.length := by omega
      have HF : Hid (R = true) := Lib.hid (by rw [HREL.out, List.drop_length]; rfl)
      clear hkg hb0
      go_wp2
      go_ret
      exact ⟨retb HF.out.symm, HB.out⟩
    | succ g =>
      have hlt : k < X.length := by omega
      have e3 : decide ((k : Int) < (X.length : Int)) = true := decide_eq_true (by omega)
      obtain ⟨x, hx⟩ : ∃ x, X[k]? = some x := ⟨_, List.getElem?_eq_getElem hlt⟩
      obtain ⟨b, o, hA, hbB, kv⟩ := IL.at_ (HS.out.step hb0) hx
      subst hA
      have j1 : (0 : Int) ≤ (k : Int) := by omega
      have j2 : (k : Int) < (X.length : Int) := by omega
      have HU : Hid (R = (decide (p < x) && decide (x ≤ 65535) && upI x (X.drop (k + 1)))) := Lib.hid (by rw [HREL.out, dropI hx, upI_cons])
      clear hx hkg hlt hbB hb0
      by_cases h1 : x ≤ p
      · have q1 : decide (x ≤ p) = true := decide_eq_true h1
        have HF : Hid (R = false) := Lib.hid (by rw [HU.out, decide_eq_false (by omega)]; rfl)
        clear h1
        go_wp2
        go_ret
        exact ⟨retb HF.out.symm, HB.out⟩
      have q1 : decide (x ≤ p) = false := decide_eq_false h1
      by_cases h2 : 65535 < x
      · have q2 : decide (65535 < x) = true := decide_eq_true h2
        have HF : Hid (R = false) := Lib.hid (by rw [HU.out, decide_eq_false (p := x ≤ 65535) (by omega)]; simp)
        clear h1 h2
        go_wp2
        go_ret
        exact ⟨retb HF.out.symm, HB.out⟩
      have q2 : decide (65535 < x) = false := decide_eq_false h2
      have HF : Hid (R = upI x (X.drop (k + 1))) := Lib.hid (by rw [HU.out, decide_eq_true (p := p < x) (by omega), decide_eq_true (p := x ≤ 65535) (by omega)]; rfl)
      clear h1 h2
      go_wp2
      go_roundg g
      case measure => omega
      case rel => exact ⟨k + 1, x, by have := HG.out; omega, rfl, rfl, HF.out, HB.out⟩

set_option maxRecDepth 20000 in
set_option maxHeartbeats 4000000 in
theorem iCheck_any (A : Option Addr) (c : Nat) (X : List Int) (L : Int) (w : World) (hsl : IL w w.heap.size A X) (_hc : X.length ≤ c) (hX : X.length ≤ 9223372036854775807) (_hb : ∀ x ∈ X, -9223372036854775808 ≤ x ∧ x ≤ 9223372036854775807) :
    Calls Tryz.prog 41 #[pv A c X L] w fun e w' => e = .returned (.int .i64 (ckI X L)) ∧ Below w.heap.size w w' := by
  have HC := Lib.hid (iAsc_any A c X _ (CL.step hsl (below_new w (.cells #[.slice A X.length c, .int .i64 L] 26))) hX)
  unfold ckI
  clear hsl _hb _hc
  by_cases h32 : 32 < X.length
  · rw [if_pos h32]
    have hd : decide ((32 : Int) < (X.length : Int)) = true := decide_eq_true (by omega)
    clear h32 HC
    go_enter Tryz.func41, Tryz.ntmps41
    go_wp2
    go_ret
    exact ⟨rfl, below_new w _⟩
  rw [if_neg h32]
  have hd : decide ((32 : Int) < (X.length : Int)) = false := decide_eq_false (by omega)
  clear h32
  have HB := Lib.hid (below_new w (.cells #[.slice A X.length c, .int .i64 L] 26))
  have HM : Hid (BK 26 (w.alloc (.cells #[.slice A X.length c, .int .i64 L] 26)) w.heap.size [.slice A X.length c, .int .i64 L]) := Lib.hid (BK.new _ _ _)
  cases hu : upI 0 X with
  | false =>
    rw [if_neg (by decide)]
    rw [hu] at HC
    clear hu
    go_enter Tryz.func41, Tryz.ntmps41
    go_wp2_with fail
    refine HC.out.mono ?_
    rintro e w' ⟨rfl, hb⟩
    have HB2 := Lib.hid (stepB HB.out hb)
    clear hb
    go_wp2
    go_ret
    exact ⟨rfl, HB2.out⟩
  | true =>
    rw [if_pos rfl]
    rw [hu] at HC
    clear hu
    by_cases hL0 : L < 0
    · have q1 : decide (L < 0) = true := decide_eq_true hL0
      rw [if_neg (by omega)]
      clear hL0
      go_enter Tryz.func41, Tryz.ntmps41
      go_wp2_with fail
      refine HC.out.mono ?_
      rintro e w' ⟨rfl, hb⟩
      have HB2 := Lib.hid (stepB HB.out hb)
      have d1 := (HM.out.step hb).cell 1 rfl
      clear hb
      go_wp2
      go_ret
      exact ⟨rfl, HB2.out⟩
    · have q1 : decide (L < 0) = false := decide_eq_false hL0
      by_cases hL1 : 65535 < L
      · have q2 : decide (65535 < L) = true := decide_eq_true hL1
        rw [if_neg (by omega)]
        clear hL0 hL1
        go_enter Tryz.func41, Tryz.ntmps41
        go_wp2_with fail
        refine HC.out.mono ?_
        rintro e w' ⟨rfl, hb⟩
        have HB2 := Lib.hid (stepB HB.out hb)
        have d1 := (HM.out.step hb).cell 1 rfl
        clear hb
        go_wp2
        go_ret
        exact ⟨rfl, HB2.out⟩
      · have q2 : decide (65535 < L) = false := decide_eq_false hL1
        rw [if_pos (by omega)]
        clear hL0 hL1
        go_enter Tryz.func41, Tryz.ntmps41
        go_wp2_with fail
        refine HC.out.mono ?_
        rintro e w' ⟨rfl, hb⟩
        have HB2 := Lib.hid (stepB HB.out hb)
        have d1 := (HM.out.step hb).cell 1 rfl
        clear hb
        go_wp2
        go_ret
        exact ⟨rfl, HB2.out⟩
theorem own_apart {w : World} {B : Nat} {v : Value} {X : List Int} (h : Own 3 iv w B v X) : ∀ q n c, v = .slice (some ⟨q, 0, none⟩) n c → w.heap.size ≠ q := fun q n c e => by
  rcases own_row h with ⟨rfl, _⟩ | ⟨g, cap, cur, rfl, _, hg, _⟩
  · simp at e
  · simp only [Value.slice.injEq, Option.some.injEq, Addr.mk.injEq, and_true] at e
    have := hg.lt
    omega

/-- an identifier, a pool in memory of its own and a code that a call answers -/
def RetTkN (r : Int × List Int × Int × Int) (W : World) (e : Ending) (w' : World) : Prop :=
  ∃ A c, e = .returned (.tuple #[.int .i64 r.1, pv A c r.2.1 r.2.2.1, .int .i64 r.2.2.2]) ∧ r.2.1.length ≤ c ∧ IL w' w'.heap.size A r.2.1 ∧ (r.2.1 = [] ∨ ∀ b o, A = some ⟨b, o, none⟩ → W.heap.size ≤ b) ∧ Below W.heap.size W w'
set_option maxRecDepth 20000 in
set_option maxHeartbeats 4000000 in
theorem iTakeN_any (A : Option Addr) (c : Nat) (X : List Int) (L : Int) (w : World) (hsl : IL w w.heap.size A X) (hc : X.length ≤ c) (hv : ckI X L = 0) :
    Calls Tryz.prog 20 #[pv A c X L] w (RetTkN (tkR X L) w) := by
  unfold tkR
  by_cases h32 : 32 ≤ X.length
  · rw [if_pos h32]
    have hd : decide ((32 : Int) ≤ (X.length : Int)) = true := decide_eq_true (by omega)
    clear hsl h32 hv
    obtain ⟨W0, hW0⟩ : ∃ W0, W0 = (w.alloc (.cells #[.slice A X.length c, .int .i64 L] 26)).alloc (.cells #[.slice none 0 0, .int .i64 0] 26) := ⟨_, rfl⟩
    have H0 := Lib.hid (two_laid (v1 := [.slice A X.length c, .int .i64 L]) (v2 := [.slice none 0 0, .int .i64 0]) hW0)
    go_enter Tryz.func20, Tryz.ntmps20
    go_wp2
    exact bodyPost_ret (v := .tuple #[.int .i64 0, pv none 0 [] 0, .int .i64 6]) (by simp [results, Tryz.results20, go_sem]) rfl ⟨none, 0, rfl, Nat.le_refl _, CL.nil _ _ _, .inl rfl, stepB ((Below.refl _ _).alloc (Nat.le_refl _) _) ((Below.refl _ _).alloc (Nat.le_refl _) _)⟩
  rw [if_neg h32]
  have hd : decide ((32 : Int) ≤ (X.length : Int)) = false := decide_eq_false (by omega)
  have hm : X.length ≤ 1000000 := by omega
  have hup := (ck_ok.1 hv).2.1
  have HS := Lib.hid hsl
  have HN := Lib.hid (fun w hs => iNext_any A c X L w hs hc hv (by omega))
  have HF := Lib.hid (fun w hs => searchI_any A c X (tkI X L) 0 w hs hm hup)
  have HC := Lib.hid (fun w hs => cloneI_any A c X w hs hm)
  have HP := Lib.hid (pos_le X (tkI X L))
  have HE := Lib.hid (ins_pos (n := tkI X L) hup)
  have HM := Lib.hid hm
  generalize decide (tkI X L ∈ X) = fnd at HF
  generalize posI X (tkI X L) = p at HF HP HE
  generalize tkI X L = R at HN HF HE ⊢
  clear hsl h32 hv hup hc hm
  go_enter Tryz.func20, Tryz.ntmps20
  go_upto_region 1 with fail
  obtain ⟨W0, hW0⟩ : ∃ W0, W0 = (w.alloc (.cells #[.slice A X.length c, .int .i64 L] 26)).alloc (.cells #[.slice none 0 0, .int .i64 0] 26) := ⟨_, rfl⟩
  rw [← hW0]
  have H0 := two_laid (v1 := [.slice A X.length c, .int .i64 L]) (v2 := [.slice none 0 0, .int .i64 0]) hW0
  clear hW0
  obtain ⟨t1, t2, _, hB0⟩ := H0
  have T1 := Lib.hid t1
  have T2 := Lib.hid t2
  have HB := Lib.hid hB0
  have d0 := t1.cell 0 rfl
  have d1 := t1.cell 1 rfl
  clear t1 t2 hB0
  go_wp2_with fail
  refine (HN.out _ (HS.out.step HB.out)).mono ?_
  rintro e w1 ⟨rfl, hb1⟩
  clear d0 d1
  have U1 := Lib.hid (T1.out.step hb1)
  have U2 := Lib.hid (T2.out.step hb1)
  have HB1 := Lib.hid (stepB HB.out hb1)
  have d0 := U1.out.cell 0 rfl
  clear hb1 T1 T2 HB HN
  go_wp2_with fail
  refine (HF.out _ (HS.out.step HB1.out)).mono ?_
  rintro e w2 ⟨rfl, q, hq⟩
  have hb2 : Below w1.heap.size w1 w2 := by rw [hq]; exact bDN _ _
  clear d0 hq
  have T1 := Lib.hid (U1.out.step hb2)
  have T2 := Lib.hid (U2.out.step hb2)
  have HB2 := Lib.hid (stepB HB1.out hb2)
  have d0 := T1.out.cell 0 rfl
  clear hb2 U1 U2 HB1 HF
  go_wp2_with fail
  refine (HC.out _ (HS.out.step HB2.out)).mono ?_
  rintro e w3 ⟨v3, rfl, hown3, hb3⟩
  clear d0
  have U2 := Lib.hid (T2.out.step hb3)
  have HB3 := Lib.hid (stepB HB2.out hb3)
  have HI := Lib.hid (insertI_any v3 X p R (w3.alloc (.cells #[.int .i64 R] 3)) w2.heap.size w3.heap.size (hown3.alloc _) (BK.new w3 3 [iv R]) (own_apart hown3) (by have := hb3.size; simp; omega) HP.out HM.out)
  rw [← HE.out] at HI
  have HA3 := Lib.hid (And.intro T2.out.lt hb3.size)
  clear hb3 hown3 T1 HC
  go_wp2_with fail
  refine HI.out.mono ?_
  rintro e w5 ⟨v5, rfl, hown5, hb5⟩
  obtain ⟨A5, c5, hv5, hc5, hsl5, hfr5⟩ := hown5.retB
  subst hv5
  have t2 := (U2.out.alloc (.cells #[.int .i64 R] 3)).keep HA3.out.1 hb5
  have d2 := t2.cell 0 rfl
  have d3 := t2.cell 1 rfl
  have f2 := t2.free 0
  have f3 := t2.free 1
  have hls := t2.lt
  have hz2 := HB2.out.size
  have HB5 := Lib.hid ((HB3.out.alloc HB3.out.size (.cells #[.int .i64 R] 3)).trans (hb5.mono hz2))
  have HSL := Lib.hid hsl5
  have HC5 := Lib.hid hc5
  have HFR := Lib.hid hfr5
  clear hb5 hown5 hsl5 hc5 t2 hfr5 HI
  have hA1 : w.heap.size + 1 < w2.heap.size := HA3.out.1
  go_wp2_with fail
  exact bodyPost_ret (v := .tuple #[.int .i64 R, pv A5 c5 (insI X R) R, .int .i64 0]) (by simp [results, Tryz.results20, go_sem, d2, d3]) rfl ⟨A5, c5, rfl, HC5.out, HSL.out _ (by simp) (fun p hp => by rw [set_other _ _ _ _ _ (by omega), set_other _ _ _ _ _ (by omega)]), .inr (fun b o e => by have := HFR.out b o e; omega), below_set2 HB5.out (b := w.heap.size + 1) (Nat.le_succ _) _ _⟩

theorem iTake_any (A : Option Addr) (c : Nat) (X : List Int) (L : Int) (w : World) (hsl : IL w w.heap.size A X) (hc : X.length ≤ c) (hv : ckI X L = 0) :
    Calls Tryz.prog 20 #[pv A c X L] w (RetTk A X (tkR X L) w) := (iTakeN_any A c X L w hsl hc hv).mono fun _ _ ⟨A', c', h1, h2, h3, h4, h5⟩ => ⟨A', c', h1, h2, h3, h4.elim .inl (fun h => .inr (.inr h)), h5⟩

set_option maxRecDepth 20000 in
set_option maxHeartbeats 4000000 in
theorem iFree_any (A : Option Addr) (c : Nat) (X : List Int) (L n : Int) (w : World) (hsl : IL w w.heap.size A X) (_hc : X.length ≤ c) (hv : ckI X L = 0) (_h1 : -9223372036854775808 ≤ n) (_h2 : n ≤ 9223372036854775807) :
    Calls Tryz.prog 64 #[pv A c X L, .int .i64 n] w (RetPB A X (delI X n) L (decide (n ∈ X)) w) := by
  have hm : X.length ≤ 1000000 := by have := (ck_ok.1 hv).1; omega
  have hup := (ck_ok.1 hv).2.1
  have HS := Lib.hid hsl
  have HF := Lib.hid (fun A c w hs => searchI_any A c X n 0 w hs hm hup)
  have HC := Lib.hid (fun w hs => cloneI_any A c X w hs hm)
  by_cases hmem : n ∈ X
  · obtain ⟨hp, he⟩ := del_pos hup hmem
    rw [decide_eq_true hmem] at HF ⊢
    have HP := Lib.hid hp
    have HE := Lib.hid he
    generalize posI X n = p at HF HP HE
    generalize delI X n = R at HE ⊢
    have hwp : IntKind.i64.wrap ((p : Int) + 1) = (p : Int) + 1 := by rw [IntKind.wrap_i64]; have := HP.out; omega
    have hp1 : (0 : Int) ≤ (p : Int) := by omega
    have hp2 : (p : Int) ≤ 1000000 := by have := HP.out; omega
    clear hsl hv hup hm _hc _h1 _h2 hmem hp he
    go_enter Tryz.func64, Tryz.ntmps64
    go_upto_region 1 with fail
    obtain ⟨W0, hW0⟩ : ∃ W0, W0 = (w.alloc (.cells #[.slice A X.length c, .int .i64 L] 26)).alloc (.cells #[.slice none 0 0, .int .i64 0] 26) := ⟨_, rfl⟩
    rw [← hW0]
    have H0 := two_laid (v1 := [.slice A X.length c, .int .i64 L]) (v2 := [.slice none 0 0, .int .i64 0]) hW0
    clear hW0
    obtain ⟨t1, t2, hs0, hB0⟩ := H0
    have T1 := Lib.hid t1
    have T2 := Lib.hid t2
    have HB := Lib.hid hB0
    have HZ := Lib.hid hs0
    have d0 := t1.cell 0 rfl
    clear t1 t2 hB0 hs0
    go_wp2_with fail
    refine (HC.out _ (HS.out.step HB.out)).mono ?_
    rintro e w1 ⟨v1, rfl, hown1, hb1⟩
    clear d0
    obtain ⟨A1, c1, hv1, hc1, hsl1, hfr1⟩ := hown1.retB
    subst hv1
    have HO := Lib.hid hown1
    have H1 := Lib.hid (hsl1 w1 (Nat.le_refl _) (fun _ _ => rfl))
    have U1 := Lib.hid (T1.out.step hb1)
    have U2 := Lib.hid (T2.out.step hb1)
    have HB1 := Lib.hid (stepB HB.out hb1)
    have HZ1 := Lib.hid hb1.size
    clear hb1 hown1 hsl1 hc1 hfr1 T1 T2 HB HC
    go_wp2_with fail
    refine (HF.out _ _ _ H1.out).mono ?_
    rintro e w2 ⟨rfl, q, hq⟩
    have hb2 : Below w1.heap.size w1 w2 := by rw [hq]; exact bDN _ _
    clear hq
    have T1 := Lib.hid (U1.out.step hb2)
    have T2 := Lib.hid (U2.out.step hb2)
    have HB2 := Lib.hid (stepB HB1.out hb2)
    have HO2 := Lib.hid (HO.out.step hb2)
    have HD := Lib.hid (deleteI_any (.slice A1 X.length c1) X p w2 W0.heap.size HO2.out HP.out)
    rw [← HE.out] at HD
    have HZ2 := Lib.hid hb2.size
    clear hb2 U1 U2 HB1 HF HO HO2
    go_wp2_with fail
    refine HD.out.mono ?_
    rintro e w3 ⟨v3, rfl, hown3, hb3⟩
    obtain ⟨A3, c3, hv3, hc3, hsl3, hfr3⟩ := hown3.retB
    subst hv3
    have t1 := T1.out.keep (by have := HZ.out; omega) hb3
    have t2 := T2.out.keep (by have := HZ.out; omega) hb3
    have d1 := t1.cell 1 rfl
    have d2 := t2.cell 0 rfl
    have d3 := t2.cell 1 rfl
    have f2 := t2.free 0
    have f3 := t2.free 1
    have hls := t2.lt
    have HB3 := Lib.hid (HB2.out.trans (hb3.mono (by have := HZ.out; omega)))
    have HSL := Lib.hid hsl3
    have HC3 := Lib.hid hc3
    have HFR := Lib.hid hfr3
    have hzz := HZ.out
    clear hb3 hown3 hsl3 hc3 t1 t2 hfr3 HD T1 T2
    go_wp2_with fail
    exact bodyPost_ret (v := .tuple #[pv A3 c3 R L, .bool true]) (by simp [results, Tryz.results64, go_sem, d2, d3]) rfl ⟨A3, c3, rfl, HC3.out, HSL.out _ (by simp) (fun p hp => by rw [set_other _ _ _ _ _ (by omega), set_other _ _ _ _ _ (by omega)]), .inr (.inr (fun b o e => by have := HFR.out b o e; omega)), below_set2 HB3.out (b := w.heap.size + 1) (Nat.le_succ _) _ _⟩
  · have he := del_id hmem
    rw [decide_eq_false hmem] at HF ⊢
    rw [he]
    generalize posI X n = p at HF
    clear hsl hv hup hm _hc _h1 _h2 hmem he
    go_enter Tryz.func64, Tryz.ntmps64
    go_upto_region 1 with fail
    obtain ⟨W0, hW0⟩ : ∃ W0, W0 = (w.alloc (.cells #[.slice A X.length c, .int .i64 L] 26)).alloc (.cells #[.slice none 0 0, .int .i64 0] 26) := ⟨_, rfl⟩
    rw [← hW0]
    have H0 := two_laid (v1 := [.slice A X.length c, .int .i64 L]) (v2 := [.slice none 0 0, .int .i64 0]) hW0
    clear hW0
    obtain ⟨t1, t2, hs0, hB0⟩ := H0
    have T1 := Lib.hid t1
    have T2 := Lib.hid t2
    have HB := Lib.hid hB0
    have HZ := Lib.hid hs0
    have d0 := t1.cell 0 rfl
    clear t1 t2 hB0 hs0
    go_wp2_with fail
    refine (HC.out _ (HS.out.step HB.out)).mono ?_
    rintro e w1 ⟨v1, rfl, hown1, hb1⟩
    clear d0
    obtain ⟨A1, c1, hv1, hc1, hsl1, hfr1⟩ := hown1.retB
    subst hv1
    have HO := Lib.hid hown1
    have H1 := Lib.hid (hsl1 w1 (Nat.le_refl _) (fun _ _ => rfl))
    have U1 := Lib.hid (T1.out.step hb1)
    have U2 := Lib.hid (T2.out.step hb1)
    have HB1 := Lib.hid (stepB HB.out hb1)
    have HZ1 := Lib.hid hb1.size
    clear hb1 hown1 hsl1 hc1 hfr1 T1 T2 HB HC
    go_wp2_with fail
    refine (HF.out _ _ _ H1.out).mono ?_
    rintro e w2 ⟨rfl, q, hq⟩
    have hb2 : Below w1.heap.size w1 w2 := by rw [hq]; exact bDN _ _
    clear hq
    have T1 := Lib.hid (U1.out.step hb2)
    have T2 := Lib.hid (U2.out.step hb2)
    have HB2 := Lib.hid (stepB HB1.out hb2)
    have hown3 := HO.out.step hb2
    obtain ⟨A3, c3, hv3, hc3, hsl3, hfr3⟩ := hown3.retB
    simp only [Value.slice.injEq, true_and] at hv3
    obtain ⟨rfl, rfl⟩ := hv3
    have d1 := T1.out.cell 1 rfl
    have d2 := T2.out.cell 0 rfl
    have d3 := T2.out.cell 1 rfl
    have f2 := T2.out.free 0
    have f3 := T2.out.free 1
    have hls := T2.out.lt
    have HB3 := HB2
    have HSL := Lib.hid hsl3
    have HC3 := Lib.hid hc3
    have HFR := Lib.hid hfr3
    have hzz := HZ.out
    clear hown3 hsl3 hc3 hfr3 T1 T2 hb2 U1 U2 HB1 HF HO
    go_wp2_with fail
    exact bodyPost_ret (v := .tuple #[pv A1 c1 X L, .bool false]) (by simp [results, Tryz.results64, go_sem, d2, d3]) rfl ⟨A1, c1, rfl, HC3.out, HSL.out _ (by simp) (fun p hp => by rw [set_other _ _ _ _ _ (by omega), set_other _ _ _ _ _ (by omega)]), .inr (.inr (fun b o e => by have := HFR.out b o e; omega)), below_set2 HB3.out (b := w.heap.size + 1) (Nat.le_succ _) _ _⟩
end Go.Proofs.YtmcocepjdhpecabGreatDoor.S2
