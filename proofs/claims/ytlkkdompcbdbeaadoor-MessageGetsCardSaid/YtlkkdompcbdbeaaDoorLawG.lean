/-
  MessageGets answers true, walked: Get and Set of the program and of the specification agree, and Set leaves its list as it was. Conditions: the tables of package unicode/utf8 are there; the properties lie below the heap's end; the texts fit an int.
-/
import Derived.Test.YtlkkdompcbdbeaaDoorAwake5
namespace Go.Proofs.YtlkkdompcbdbeaaDoor
open Go.RowKit

theorem setR_size {l : List PR} {key value : ByteArray} : (setR l key value).1.length ≤ 2 * l.length + 1 := by
  unfold setR
  split
  · exact Nat.zero_le _
  · split
    · exact Nat.zero_le _
    · split
      · exact Nat.zero_le _
      · unfold setL
        have h1 := List.length_filter_le (fun x : PR => ltS x.1 key) l
        have h2 := List.length_filter_le (fun x : PR => ltS key x.1) l
        simp only [List.length_append, List.length_cons, List.length_nil]
        omega
/-- behind a choice that the limits make: awake alone -/
theorem gets_short (A : Option Addr) (c : Nat) (xs : List PR) (key value : ByteArray) (w : World) (hw : S1.Okw w) (hsl : PL w w.heap.size A xs)
    (h : fewR xs = false ∨ 2400 < key.size ∨ 2400 < value.size) :
    Calls Tryd.prog 4 #[.slice A xs.length c, .string key, .string value] w fun e w' => e = .returned (.bool true) ∧ Below w.heap.size w w' := by
  have HW := Lib.hid hw
  have HS := Lib.hid hsl
  have HH := Lib.hid h
  clear hw hsl h
  cases hf : fewR xs with
  | false =>
    go_enter Tryd.func4, Tryd.ntmps4
    go_wp2_with fail
    refine (few_any A c xs w HS.out).mono ?_
    rintro e w1 ⟨rfl, rfl⟩
    rw [hf]
    clear hf HH
    go_wp2_with fail
    refine (awake5_any w HW.out).mono ?_
    rintro e w1 ⟨rfl, hb⟩
    go_wp2_with fail
    go_ret
    exact ⟨rfl, hb⟩
  | true =>
    by_cases hk : 2400 < key.size
    · have d1 : decide ((2400 : Int) < (key.size : Int)) = true := decide_eq_true (by omega)
      clear HH hk
      go_enter Tryd.func4, Tryd.ntmps4
      go_wp2_with fail
      refine (few_any A c xs w HS.out).mono ?_
      rintro e w1 ⟨rfl, rfl⟩
      rw [hf]
      clear hf
      go_wp2_with fail
      refine (awake5_any w HW.out).mono ?_
      rintro e w1 ⟨rfl, hb⟩
      go_wp2_with fail
      go_ret
      exact ⟨rfl, hb⟩
    · have d1 : decide ((2400 : Int) < (key.size : Int)) = false := decide_eq_false (by omega)
      have d2 : decide ((2400 : Int) < (value.size : Int)) = true := decide_eq_true (by
        rcases HH.out with h | h | h
        · rw [hf] at h; cases h
        · exact absurd h hk
        · omega)
      clear HH hk
      go_enter Tryd.func4, Tryd.ntmps4
      go_wp2_with fail
      refine (few_any A c xs w HS.out).mono ?_
      rintro e w1 ⟨rfl, rfl⟩
      rw [hf]
      clear hf
      go_wp2_with fail
      refine (awake5_any w HW.out).mono ?_
      rintro e w1 ⟨rfl, hb⟩
      go_wp2_with fail
      go_ret
      exact ⟨rfl, hb⟩
set_option maxRecDepth 20000 in
set_option maxHeartbeats 4000000 in
theorem messageGets_walk (A : Option Addr) (c : Nat) (xs : List PR) (key value : ByteArray) (w : World) (hw : S1.Okw w) (hsl : PL w w.heap.size A xs) :
    Calls Tryd.prog 4 #[.slice A xs.length c, .string key, .string value] w fun e w' => e = .returned (.bool true) ∧ Below w.heap.size w w' := by
  by_cases h : fewR xs = false ∨ 2400 < key.size ∨ 2400 < value.size
  · exact gets_short A c xs key value w hw hsl h
  have hf : fewR xs = true := by
    cases hx : fewR xs with
    | true => rfl
    | false => exact absurd (Or.inl hx) h
  have d1 : decide ((2400 : Int) < (key.size : Int)) = false := decide_eq_false (fun hh => h (Or.inr (Or.inl (by omega))))
  have d2 : decide ((2400 : Int) < (value.size : Int)) = false := decide_eq_false (fun hh => h (Or.inr (Or.inr (by omega))))
  have HK : Hid (key.size ≤ 9223372036854775807) := Lib.hid (by
    rcases Nat.lt_or_ge 2400 key.size with hh | hh
    · exact absurd (Or.inr (Or.inl hh)) h
    · omega)
  obtain ⟨h20, hz⟩ := few_parts hf
  have HZ : Hid (∀ x ∈ xs, x.1.size ≤ 9223372036854775807) := Lib.hid (fun x hx => by have := hz x hx; omega)
  have HW := Lib.hid hw
  have HS := Lib.hid hsl
  have HL := Lib.hid h20
  clear hw hsl h hz h20
  go_enter Tryd.func4, Tryd.ntmps4
  go_wp2_with fail
  refine (few_any A c xs w HS.out).mono ?_
  rintro e w1 ⟨rfl, rfl⟩
  rw [hf]
  clear hf
  go_wp2_with fail
  clear d1 d2
  have CG := fun w h => get_any A c xs key w h (Nat.le_trans HL.out (by decide))
  have CR := fun w h => rGet_any A c xs key w h (Nat.le_trans HL.out (by decide))
  unfold retG at CG CR
  have HCG := Lib.hid CG
  have HCR := Lib.hid CR
  clear CG CR
  generalize getR xs key = g at HCG HCR
  refine (HCG.out w HS.out).mono ?_
  rintro e w1 ⟨rfl, hb1⟩
  have HB1 := Lib.hid hb1
  have HS1 := Lib.hid (HS.out.step hb1)
  clear hb1
  go_wp2_with fail
  refine (HCR.out w1 HS1.out).mono ?_
  rintro e w2 ⟨rfl, hb2⟩
  have HB2 := Lib.hid (stepB HB1.out hb2)
  have HS2 := Lib.hid (HS1.out.step hb2)
  clear hb2 HCG HCR
  have hb0 := (Below.refl w2.heap.size w2).alloc (Nat.le_refl _) (.cells #[] 34)
  have HSA := Lib.hid (HS2.out.step hb0)
  go_wp2_with (at_builtin; go_must (refine wpList_appG (g := gP) (k := 2) (e := 34) (by decide) _ rfl _ _ 22 22 rfl (.agg #[.string ByteArray.empty, .string ByteArray.empty]) 32 Tryd.underlying22 infoP rfl (by decide) w2.heap.size _ [] xs rfl (OwnG.made w2 0 #[] w2.heap.size (Nat.le_refl _) (by decide) rfl) _ rfl (GL.src gP_len gP_one HSA.out Tryd.underlying22 c) w2 hb0 (by simp) (by have := HL.out; simp; omega) ?_); intro v3 w3 hown3 hb3 hsz3)
  obtain ⟨A4, c4, rfl, _, hs4⟩ := hown3.ret gP_len
  rw [List.nil_append] at hs4 ⊢
  have HB3 := Lib.hid (stepB HB2.out hb3)
  have HS3 := Lib.hid (HS2.out.step hb3)
  have HQ3 := Lib.hid hs4
  clear hown3 hb3 hsz3 hs4 hb0 HSA HS2 HB2 HS1 HB1
  go_wp2_with fail
  refine (set_any A4 c4 xs key value w3 HQ3.out).mono ?_
  rintro e w4 ⟨v4, rfl, hown, hb⟩
  obtain ⟨A5, c5, rfl, _, hs5⟩ := hown.ret gP_len
  have HB4 := Lib.hid (stepB HB3.out hb)
  have HS4 := Lib.hid (HS3.out.step hb)
  have HQ4 := Lib.hid (HQ3.out.step hb)
  have HT4 := Lib.hid hs5
  clear hown hb hs5 HB3 HS3 HQ3
  go_wp2_with fail
  refine (rSet_any A c xs key value w4 HS4.out HZ.out HK.out).mono ?_
  rintro e w5 ⟨v5, rfl, hown, hb⟩
  obtain ⟨A6, c6, rfl, _, hs6⟩ := hown.ret gP_len
  have HB5 := Lib.hid (stepB HB4.out hb)
  have HS5 := Lib.hid (HS4.out.step hb)
  have HQ5 := Lib.hid (HQ4.out.step hb)
  have HT5 := Lib.hid (HT4.out.step hb)
  have HU5 := Lib.hid hs6
  have HSZ : Hid ((setR xs key value).1.length ≤ 9223372036854775806) := Lib.hid (by have h1 := HL.out; have h2 := @setR_size xs key value; omega)
  clear hown hb hs6 HB4 HS4 HQ4 HT4
  generalize setR xs key value = r at HT5 HU5 HSZ
  go_wp2_with fail
  refine (sameProps_any A5 A6 c5 c6 r.1 r.1 w5 HT5.out HU5.out HSZ.out).mono ?_
  rintro e w6 ⟨rfl, hb⟩
  rw [decide_eq_true rfl]
  have HB6 := Lib.hid (stepB HB5.out hb)
  have HS6 := Lib.hid (HS5.out.step hb)
  have HQ6 := Lib.hid (HQ5.out.step hb)
  clear hb HB5 HS5 HQ5 HT5 HU5 HSZ
  go_wp2_with fail
  refine (sameProps_any A4 A c4 c xs xs w6 HQ6.out HS6.out (Nat.le_trans HL.out (by decide))).mono ?_
  rintro e w7 ⟨rfl, hb⟩
  rw [decide_eq_true rfl]
  have HB7 := Lib.hid (stepB HB6.out hb)
  clear hb HB6 HS6 HQ6
  go_wp2_with fail
  refine (awake5_any w7 (HW.out.step HB7.out)).mono ?_
  rintro e w8 ⟨rfl, hb⟩
  have HB8 := Lib.hid (stepB HB7.out hb)
  go_wp2_with fail
  go_ret
  exact ⟨rfl, HB8.out⟩

end Go.Proofs.YtlkkdompcbdbeaaDoor
