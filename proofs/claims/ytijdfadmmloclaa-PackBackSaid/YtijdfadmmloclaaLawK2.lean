/-
  The walks of PackTextPuts and PackTextReads: each answers true. Conditions: the lists read as data; the numbers fit their kinds.
-/
import Derived.Test.YtijdfadmmloclaaLawK
namespace Go.Proofs.Ytijdfadmmloclaa
open Go.RowKit

def shortR (l : List ByteArray) : Bool := decide (l.length ≤ 24) && l.all fun x => decide (x.size ≤ 400)
def SmallUpto (xs : List ByteArray) (i : Nat) : Prop := ∀ j x, j < i → xs[j]? = some x → x.size ≤ 400
theorem SmallUpto.succ {xs : List ByteArray} {i : Nat} {x : ByteArray} (h : SmallUpto xs i) (hx : xs[i]? = some x) (hs : x.size ≤ 400) : SmallUpto xs (i + 1) := fun j y hj hy => by
  rcases Nat.lt_succ_iff_lt_or_eq.1 hj with h' | h'
  · exact h j y h' hy
  · subst h'
    rw [hx] at hy
    rw [← Option.some.inj hy]; exact hs
theorem short_done {xs : List ByteArray} (h : SmallUpto xs xs.length) (hl : xs.length ≤ 24) : shortR xs = true := by
  unfold shortR
  rw [decide_eq_true hl, Bool.true_and, List.all_eq_true]
  intro x hx
  obtain ⟨j, hj⟩ := List.mem_iff_getElem?.1 hx
  exact decide_eq_true (h j x (List.getElem?_eq_some_iff.1 hj).1 hj)
theorem short_long {xs : List ByteArray} (h : 24 < xs.length) : shortR xs = false := by
  unfold shortR
  rw [decide_eq_false (by omega)]; rfl
theorem short_bad {xs : List ByteArray} {i : Nat} {x : ByteArray} (hx : xs[i]? = some x) (hs : ¬ x.size ≤ 400) : shortR xs = false := by
  unfold shortR
  have : (xs.all fun x => decide (x.size ≤ 400)) = false := by
    rw [List.all_eq_false]
    exact ⟨x, List.mem_of_getElem? hx, by simpa using hs⟩
  rw [this]; simp
theorem short_parts {xs : List ByteArray} (h : shortR xs = true) : xs.length ≤ 24 ∧ ∀ x ∈ xs, x.size ≤ 400 := by
  unfold shortR at h
  rw [Bool.and_eq_true, List.all_eq_true] at h
  exact ⟨of_decide_eq_true h.1, fun x hx => of_decide_eq_true (h.2 x hx)⟩

set_option maxHeartbeats 1000000 in
theorem short_any (A : Option Addr) (c : Nat) (xs : List ByteArray) (w : World) (B : Nat) (h : SL w B A xs) (hN : xs.length ≤ 140737488355328) :
    Calls Try.prog 21 #[.slice A xs.length c] w fun e w' => e = .returned (.bool (shortR xs)) ∧ w = w' := by
  by_cases h24 : 24 < xs.length
  · rw [short_long h24]
    clear h
    go_enter Try.func21, Try.ntmps21
    go_wp2
    go_ret
    exact ⟨rfl, rfl⟩
  · have HS := Lib.hid h
    clear h
    go_enter Try.func21, Try.ntmps21
    go_wp2
    go_loop [3] (fun i => ∃ k : Nat, k ≤ xs.length ∧ i = .int .i64 k ∧ SmallUpto xs k) (fun i => xs.length - (intOf i).toNat)
    case atStart => exact ⟨0, by omega, rfl, fun _ _ h => absurd h (Nat.not_lt_zero _)⟩
    case round =>
      obtain ⟨k, hk, rfl, hsm⟩ := hrel
      have HM := Lib.hid hsm
      clear hsm
      by_cases hlt : k < xs.length
      · obtain ⟨b, o, rfl, hb, hcl⟩ := HS.out (by omega)
        obtain ⟨x, hx⟩ : ∃ x, xs[k]? = some x := ⟨_, List.getElem?_eq_getElem hlt⟩
        have k1 := hcl k x hx
        have HX := Lib.hid hx
        clear hcl hx HS
        by_cases hs : x.size ≤ 400
        · have q2 : decide ((400 : Int) < (x.size : Int)) = false := decide_eq_false (by omega)
          go_wp2
          exact ⟨⟨k + 1, by omega, by go_num, HM.out.succ HX.out hs⟩, by simp [intOf]; omega⟩
        · have q2 : decide ((400 : Int) < (x.size : Int)) = true := decide_eq_true (by omega)
          have HF := Lib.hid (short_bad HX.out hs)
          go_wp2
          go_ret
          exact ⟨retb HF.out.symm, rfl⟩
      · obtain rfl : k = xs.length := by omega
        have HF := Lib.hid (short_done HM.out (by omega))
        go_wp2
        go_ret
        exact ⟨retb HF.out.symm, rfl⟩

/-- two slices of the same bytes are the same -/
theorem same_self {A A' : Option Addr} {c c' : Nat} {T : List UInt8} {w : World} {B B' : Nat} (h : CL bv w B A T) (h' : CL bv w B' A' T) :
    Calls Try.prog 16 #[.slice A T.length c, .slice A' T.length c'] w fun e w' => e = .returned (.bool true) ∧ w = w' := by
  have cs := sameB_any A A' c c' T T w B B' h h'
  rw [decide_eq_true rfl] at cs
  exact cs

set_option maxHeartbeats 4000000 in
theorem packTextPuts_walk (A : Option Addr) (c : Nat) (l : List UInt8) (s : ByteArray) (A' : Option Addr) (c' : Nat) (xs : List ByteArray) (w : World) (hsl : CL bv w w.heap.size A l) (_hc : l.length ≤ c) (hn : l.length ≤ 140737488355328) (hz : s.size ≤ 140737488355328)
    (hsl' : SL w w.heap.size A' xs) (_hc' : xs.length ≤ c') (hn' : xs.length ≤ 140737488355328) :
    Calls Try.prog 5 #[.slice A l.length c, .string s, .slice A' xs.length c'] w fun e w' => e = .returned (.bool true) ∧ Below w.heap.size w w' := by
  by_cases h400 : 400 < l.length
  · clear hsl hsl'
    go_enter Try.func5, Try.ntmps5
    go_wp2_with fail
    refine (awake3_any _).mono ?_
    rintro e w1 ⟨rfl, hb1⟩
    go_wp2_with fail
    go_ret
    exact ⟨rfl, hb1⟩
  · by_cases hs400 : 400 < s.size
    · clear hsl hsl'
      go_enter Try.func5, Try.ntmps5
      go_wp2_with fail
      refine (awake3_any _).mono ?_
      rintro e w1 ⟨rfl, hb1⟩
      go_wp2_with fail
      go_ret
      exact ⟨rfl, hb1⟩
    · have HSH := Lib.hid (short_any A' c' xs w _ hsl' hn')
      cases hsh : shortR xs
      · rw [hsh] at HSH
        clear hsl hsl' hsh
        go_enter Try.func5, Try.ntmps5
        go_wp2_with fail
        refine HSH.out.mono ?_
        rintro e w1 ⟨rfl, rfl⟩
        go_wp2_with fail
        refine (awake3_any _).mono ?_
        rintro e w1 ⟨rfl, hb1⟩
        go_wp2_with fail
        go_ret
        exact ⟨rfl, hb1⟩
      · obtain ⟨h24, hM⟩ := short_parts hsh
        rw [hsh] at HSH
        have hM2 : ∀ x ∈ xs, x.size ≤ 1000000 := fun x hx => by have := hM x hx; omega
        have HP := Lib.hid (fun w hsl => putText_any A c l s w hsl (by omega) (by omega))
        have HQ := Lib.hid (fun w hsl => rPutText_any A c l s w hsl (by omega) (by omega))
        have HPT := Lib.hid (fun w hsl hsl' => putTexts_any A c l A' c' xs w hsl hsl' (by omega) (by omega) hM2)
        have HQT := Lib.hid (fun w hsl hsl' => rPutTexts_any A c l A' c' xs w hsl hsl' (by omega) (by omega) hM2)
        have e1 : l ++ (enc s.size ++ dl s) = l ++ encT s := rfl
        rw [e1] at HP
        clear e1
        generalize l ++ encT s = T at HP HQ
        generalize l ++ encL xs = T2 at HPT HQT
        have HB := Lib.hid hsl
        have HX := Lib.hid hsl'
        clear hsh hM hM2 hsl hsl'
        go_enter Try.func5, Try.ntmps5
        go_wp2_with fail
        refine HSH.out.mono ?_
        rintro e w1 ⟨rfl, rfl⟩
        go_wp2_with fail
        refine (HP.out w HB.out).mono ?_
        rintro e w2 ⟨v2, rfl, hown2, hb2⟩
        obtain ⟨A2, c2, rfl, _, hsl2⟩ := hown2.ret
        have HB2 := Lib.hid (HB.out.step hb2)
        have HX2 := Lib.hid (HX.out.step hb2)
        clear hown2 HSH HP HB HX
        go_wp2_with fail
        refine (HQ.out w2 HB2.out).mono ?_
        rintro e w3 ⟨v3, rfl, hown3, hb3⟩
        obtain ⟨A3, c3, rfl, _, hsl3⟩ := hown3.ret
        have HB3 := Lib.hid (HB2.out.step hb3)
        have HX3 := Lib.hid (HX2.out.step hb3)
        have CS := Lib.hid (same_self (c := c2) (c' := c3) (hsl2.step hb3) hsl3)
        have hb3' := stepB hb2 hb3
        clear hown3 HQ HB2 HX2 hsl2 hsl3 hb2 hb3
        go_wp2_with fail
        refine CS.out.mono ?_
        rintro e w4 ⟨rfl, rfl⟩
        go_wp2_with fail
        refine (HPT.out w3 HB3.out HX3.out).mono ?_
        rintro e w5 ⟨v5, rfl, hown5, hb5⟩
        obtain ⟨A5, c5, rfl, _, hsl5⟩ := hown5.ret
        have HB5 := Lib.hid (HB3.out.step hb5)
        have HX5 := Lib.hid (HX3.out.step hb5)
        have hb5' := stepB hb3' hb5
        clear hown5 HPT HB3 HX3 CS hb3'
        go_wp2_with fail
        refine (HQT.out w5 HB5.out HX5.out).mono ?_
        rintro e w6 ⟨v6, rfl, hown6, hb6⟩
        obtain ⟨A6, c6, rfl, _, hsl6⟩ := hown6.ret
        have CS := Lib.hid (same_self (c := c5) (c' := c6) (hsl5.step hb6) hsl6)
        have hb6' := stepB hb5' hb6
        clear hown6 HQT HB5 HX5 hsl5 hsl6 hb5 hb6 hb5'
        go_wp2_with fail
        refine CS.out.mono ?_
        rintro e w7 ⟨rfl, rfl⟩
        go_wp2_with fail
        refine (awake3_any _).mono ?_
        rintro e w8 ⟨rfl, hb8⟩
        go_wp2_with fail
        go_ret
        exact ⟨rfl, stepB hb6' hb8⟩

theorem textsF_len {l : List UInt8} {limit : Int} : ∀ (n : Nat) (p : Nat) (acc : List ByteArray), p ≤ l.length → acc.length ≤ p → (textsF n l (p : Int) limit acc).1.length ≤ l.length := by
  intro n
  induction n with
  | zero => intro p acc hp ha; simp [textsF]; omega
  | succ n ih =>
    intro p acc hp ha
    rw [textsF]
    split
    · simp
    · next h0 =>
      generalize hr : textR l p limit = r at h0 ⊢
      obtain ⟨s, nx, e⟩ := r
      simp only at h0 ⊢
      obtain rfl : e = 0 := by omega
      obtain ⟨k, j, h1, rfl, h3, h4, _, _⟩ := textR_ok hr
      obtain rfl : p = k := by omega
      exact ih (p + j) _ h4 (by simp; omega)
theorem textsR_len (l : List UInt8) (p limit : Int) : (textsR l p limit).1.length ≤ l.length := by
  unfold textsR
  split
  · simp
  · next h0 =>
    generalize hr : countR l p limit = r at h0 ⊢
    obtain ⟨n, nx, e⟩ := r
    simp only at h0 ⊢
    obtain rfl : e = 0 := by omega
    obtain ⟨k, j, m, rfl, rfl, rfl, _, h3, _, h5, _, _⟩ := countR_ok hr
    exact textsF_len _ (k + j) [] h5 (by simp)

theorem below_drewN (w : World) (n : Nat) : Below w.heap.size w (w.drewN n) := by
  induction n with
  | zero => exact Below.refl _ _
  | succ n ih => exact ih.drew

set_option maxHeartbeats 4000000 in
theorem packTextReads_walk (A : Option Addr) (c : Nat) (l : List UInt8) (p limit : Int) (w : World) (hsl : CL bv w w.heap.size A l) (hc : l.length ≤ c) (hn : l.length ≤ 140737488355328) (hp1 : -9223372036854775808 ≤ p) (hp2 : p ≤ 9223372036854775807)
    (_h1 : -9223372036854775808 ≤ limit) (_h2 : limit ≤ 9223372036854775807) :
    Calls Try.prog 6 #[.slice A l.length c, .int .i64 p, .int .i64 limit] w fun e w' => e = .returned (.bool true) ∧ Below w.heap.size w w' := by
  by_cases h400 : 400 < l.length
  · clear hsl
    go_enter Try.func6, Try.ntmps6
    go_wp2_with fail
    refine (awake3_any _).mono ?_
    rintro e w1 ⟨rfl, hb1⟩
    go_wp2_with fail
    go_ret
    exact ⟨rfl, hb1⟩
  · have HT := Lib.hid (text_any A c l p limit hp1 hp2 w _ hsl hc hn)
    have HR := Lib.hid (rText_any A c l p limit hp1 hp2 w _ hsl hc hn)
    have HTS := Lib.hid (texts_any A c l p limit hp1 hp2 w hsl hc (by omega))
    have HRS := Lib.hid (fun w hsl => rTexts_any A c l p limit hp1 hp2 w hsl hc (by omega))
    have hlen : (textsR l p limit).1.length ≤ 9223372036854775807 := Nat.le_trans (textsR_len l p limit) (by omega)
    generalize textR l p limit = r at HT HR
    obtain ⟨s, nx, er⟩ := r
    generalize textsR l p limit = r at HTS HRS hlen
    obtain ⟨xs, nx2, er2⟩ := r
    have HB := Lib.hid hsl
    clear hsl hp1 hp2
    go_enter Try.func6, Try.ntmps6
    go_wp2_with fail
    refine HT.out.mono ?_
    rintro e w1 ⟨rfl, rfl⟩
    unfold triS
    go_wp2_with fail
    refine HR.out.mono ?_
    rintro e w1 ⟨rfl, rfl⟩
    unfold triS
    go_wp2_with fail
    refine HTS.out.mono ?_
    rintro e w2 ⟨v2, rfl, hown2, hb2⟩
    obtain ⟨A2, c2, rfl, _, hsl2⟩ := hown2.ret
    have HB2 := Lib.hid (HB.out.step hb2)
    clear hown2 HT HR HTS HB
    go_wp2_with fail
    refine (HRS.out w2 HB2.out).mono ?_
    rintro e w3 ⟨v3, rfl, hown3, hb3⟩
    obtain ⟨A3, c3, rfl, _, hsl3⟩ := hown3.ret
    have cs := sameL_any A2 A3 c2 c3 xs xs w3 _ (hsl2.step hb3) hsl3 hlen
    rw [decide_eq_true rfl] at cs
    have CS := Lib.hid cs
    have hb3' := stepB hb2 hb3
    clear hown3 HRS HB2 cs hsl2 hsl3 hb2 hb3
    go_wp2_with fail
    refine CS.out.mono ?_
    rintro e w4 ⟨rfl, n, rfl⟩
    have hb4 : Below w.heap.size w (w3.drewN n) := stepB hb3' (below_drewN w3 n)
    clear CS
    go_wp2_with fail
    refine (awake3_any _).mono ?_
    rintro e w5 ⟨rfl, hb5⟩
    go_wp2_with fail
    go_ret
    exact ⟨rfl, stepB hb4 hb5⟩

end Go.Proofs.Ytijdfadmmloclaa
