/-
  MessageSets answers true, walked: the list that Set hands back holds the value at the key and every other property as it was. Conditions: the tables of package unicode/utf8 are there; the properties lie below the heap's end.
-/
import Derived.Test.YtlkkdompcbdbeaaDoorSetsP
namespace Go.Proofs.YtlkkdompcbdbeaaDoor
open Go.RowKit

/-- behind a choice that the limits make: awake alone -/
theorem sets_short (A : Option Addr) (c : Nat) (xs : List PR) (key value : ByteArray) (w : World) (hw : S1.Okw w) (hsl : PL w w.heap.size A xs)
    (h : fewR xs = false ∨ 2400 < key.size ∨ 2400 < value.size) :
    Calls Tryd.prog 5 #[.slice A xs.length c, .string key, .string value] w fun e w' => e = .returned (.bool true) ∧ Below w.heap.size w w' := by
  have HW := Lib.hid hw
  have HS := Lib.hid hsl
  have HH := Lib.hid h
  clear hw hsl h
  cases hf : fewR xs with
  | false =>
    go_enter Tryd.func5, Tryd.ntmps5
    go_wp2_with fail
    refine (few_any A c xs w HS.out).mono ?_
    rintro e w1 ⟨rfl, rfl⟩
    rw [hf]
    clear hf HH
    go_wp2_with fail
    refine (awake5_any w HW.out).mono ?_
    rintro e w1 ⟨rfl, hb⟩
    go_wp2_with fail
    go_ret
    exact ⟨rfl, hb⟩
  | true =>
    by_cases hk : 2400 < key.size
    · have d1 : decide ((2400 : Int) < (key.size : Int)) = true := decide_eq_true (by omega)
      clear HH hk
      go_enter Tryd.func5, Tryd.ntmps5
      go_wp2_with fail
      refine (few_any A c xs w HS.out).mono ?_
      rintro e w1 ⟨rfl, rfl⟩
      rw [hf]
      clear hf
      go_wp2_with fail
      refine (awake5_any w HW.out).mono ?_
      rintro e w1 ⟨rfl, hb⟩
      go_wp2_with fail
      go_ret
      exact ⟨rfl, hb⟩
    · have d1 : decide ((2400 : Int) < (key.size : Int)) = false := decide_eq_false (by omega)
      have d2 : decide ((2400 : Int) < (value.size : Int)) = true := decide_eq_true (by
        rcases HH.out with h | h | h
        · rw [hf] at h; cases h
        · exact absurd h hk
        · omega)
      clear HH hk
      go_enter Tryd.func5, Tryd.ntmps5
      go_wp2_with fail
      refine (few_any A c xs w HS.out).mono ?_
      rintro e w1 ⟨rfl, rfl⟩
      rw [hf]
      clear hf
      go_wp2_with fail
      refine (awake5_any w HW.out).mono ?_
      rintro e w1 ⟨rfl, hb⟩
      go_wp2_with fail
      go_ret
      exact ⟨rfl, hb⟩
set_option maxRecDepth 20000 in
set_option maxHeartbeats 8000000 in
theorem messageSets_walk (A : Option Addr) (c : Nat) (xs : List PR) (key value : ByteArray) (w : World) (hw : S1.Okw w) (hsl : PL w w.heap.size A xs) :
    Calls Tryd.prog 5 #[.slice A xs.length c, .string key, .string value] w fun e w' => e = .returned (.bool true) ∧ Below w.heap.size w w' := by
  by_cases h : fewR xs = false ∨ 2400 < key.size ∨ 2400 < value.size
  · exact sets_short A c xs key value w hw hsl h
  have hf : fewR xs = true := by
    cases hx : fewR xs with
    | true => rfl
    | false => exact absurd (Or.inl hx) h
  have d1 : decide ((2400 : Int) < (key.size : Int)) = false := decide_eq_false (fun hh => h (Or.inr (Or.inl (by omega))))
  have d2 : decide ((2400 : Int) < (value.size : Int)) = false := decide_eq_false (fun hh => h (Or.inr (Or.inr (by omega))))
  have HK : Hid (key.size ≤ 9223372036854775807) := Lib.hid (by
    rcases Nat.lt_or_ge 2400 key.size with hh | hh
    · exact absurd (Or.inr (Or.inl hh)) h
    · omega)
  have CS := set_any A c xs key value w hsl
  obtain ⟨h20, hz⟩ := few_parts hf
  have HZ : Hid (∀ x ∈ xs, x.1.size ≤ 9223372036854775807) := Lib.hid (fun x hx => by have := hz x hx; omega)
  have HW := Lib.hid hw
  have HS := Lib.hid hsl
  have HL := Lib.hid h20
  clear hw hsl h hz h20 HK HZ
  unfold RetSet at CS
  rcases setR_cases xs key value with ⟨er, h1, h2⟩ | ⟨ys, h1, g1, g2, g3, g4, g5⟩
  · rw [h1] at CS
    have q0 : ((er : Int) != 0) = true := by simp; omega
    have HCS := Lib.hid CS
    clear h1 h2 CS
    go_enter Tryd.func5, Tryd.ntmps5
    go_wp2_with fail
    refine (few_any A c xs w HS.out).mono ?_
    rintro e w1 ⟨rfl, rfl⟩
    rw [hf]
    clear hf
    go_wp2_with fail
    clear d1 d2
    refine HCS.out.mono ?_
    rintro e w1 ⟨v, rfl, hown, hb⟩
    obtain ⟨A5, c5, rfl, _, _⟩ := hown.ret gP_len
    have HBw1 := Lib.hid hb
    clear hown hb HCS
    go_wp2_with fail
    refine (awake5_any w1 (HW.out.step HBw1.out)).mono ?_
    rintro e w2 ⟨rfl, hb⟩
    have HB2 := Lib.hid (stepB HBw1.out hb)
    go_wp2_with fail
    go_ret
    exact ⟨rfl, HB2.out⟩
  rw [h1] at CS
  have HCS := Lib.hid CS
  have HG1 := Lib.hid g1
  have HG2 := Lib.hid g2
  have HG3 := Lib.hid g3
  have HG4 := Lib.hid g4
  have HG5 := Lib.hid g5
  have HYL : Hid (ys.length ≤ 9223372036854775806) := Lib.hid (by have := HL.out; rw [g5]; split <;> omega)
  clear h1 g1 g2 g3 g4 g5 CS
  go_enter Tryd.func5, Tryd.ntmps5
  go_wp2_with fail
  refine (few_any A c xs w HS.out).mono ?_
  rintro e w1 ⟨rfl, rfl⟩
  rw [hf]
  clear hf
  go_wp2_with fail
  clear d1 d2
  refine HCS.out.mono ?_
  rintro e w1 ⟨v, rfl, hown, hb⟩
  obtain ⟨A5, c5, rfl, _, hs5⟩ := hown.ret gP_len
  dsimp only at hs5 ⊢
  have HB1 := Lib.hid hb
  have HS1 := Lib.hid (HS.out.step hb)
  have HY1 := Lib.hid hs5
  clear hown hb hs5 HCS
  go_wp2_with fail
  have C2 := get_any A5 c5 ys key w1 HY1.out HYL.out
  rw [HG1.out] at C2
  unfold retG at C2
  refine C2.mono ?_
  clear C2
  rintro e w2 ⟨rfl, hb⟩
  have HB2 := Lib.hid (stepB HB1.out hb)
  have HS2 := Lib.hid (HS1.out.step hb)
  have HY2 := Lib.hid (HY1.out.step hb)
  clear hb HB1 HS1 HY1
  go_wp2_with fail
  have C3 := props_any A5 c5 ys w2 HY2.out
  rw [HG2.out] at C3
  refine C3.mono ?_
  clear C3
  rintro e w3 ⟨rfl, hb⟩
  have HB3 := Lib.hid (stepB HB2.out hb)
  have HS3 := Lib.hid (HS2.out.step hb)
  have HY3 := Lib.hid (HY2.out.step hb)
  clear hb HB2 HS2 HY2
  go_wp2_with fail
  have C4 := props_any A c xs w3 HS3.out
  rw [HG3.out] at C4
  refine C4.mono ?_
  clear C4
  rintro e w4 ⟨rfl, hb⟩
  have HB4 := Lib.hid (stepB HB3.out hb)
  have HS4 := Lib.hid (HS3.out.step hb)
  have HY4 := Lib.hid (HY3.out.step hb)
  clear hb HB3 HS3 HY3
  go_wp2
  go_loopg [11] xs.length (fun g v wr => ∃ k : Nat, k + g = xs.length ∧ v = .int .i64 k ∧ Below w4.heap.size w4 wr)
  case atStart => exact ⟨0, by omega, rfl, Below.refl _ _⟩
  case round =>
    obtain ⟨k, hkg, rfl, hb⟩ := hrel
    have HB := Lib.hid hb
    have HG := Lib.hid hkg
    cases gk with
    | zero =>
      obtain rfl : k = xs.length := by omega
      have HS5 := Lib.hid (HS4.out.step hb)
      have HB5 := Lib.hid (stepB HB4.out hb)
      clear hkg hb HG
      go_wp2_with fail
      have C5 := get_any A c xs key wr HS5.out (Nat.le_trans HL.out (by decide))
      have HL5 := HG5.out
      generalize getR xs key = r at C5 HL5
      obtain ⟨rv, rb⟩ := r
      unfold retG at C5
      refine C5.mono ?_
      clear C5
      rintro e w6 ⟨rfl, hb⟩
      have HB6 := Lib.hid (stepB HB5.out hb)
      clear hb
      cases rb with
      | true =>
        rw [if_pos rfl] at HL5
        have q5 : ((ys.length : Int) == (xs.length : Int)) = true := by simp; omega
        clear HL5
        go_wp2_with fail
        refine (awake5_any w6 (HW.out.step HB6.out)).mono ?_
        rintro e w7 ⟨rfl, hb⟩
        have HB7 := Lib.hid (stepB HB6.out hb)
        go_wp2_with fail
        go_ret
        exact ⟨rfl, HB7.out⟩
      | false =>
        rw [if_neg (by simp)] at HL5
        have q5 : ((ys.length : Int) == (xs.length : Int) + 1) = true := by simp; omega
        have q6 : wrap64 ((xs.length : Int) + 1) = (xs.length : Int) + 1 := wrap64_id _ (by omega) (by have := HL.out; omega)
        clear HL5
        go_wp2_with fail
        refine (awake5_any w6 (HW.out.step HB6.out)).mono ?_
        rintro e w7 ⟨rfl, hb⟩
        have HB7 := Lib.hid (stepB HB6.out hb)
        go_wp2_with fail
        go_ret
        exact ⟨rfl, HB7.out⟩
    | succ g =>
      have hlt : k < xs.length := by omega
      have e3 : decide ((k : Int) < (xs.length : Int)) = true := decide_eq_true (by omega)
      obtain ⟨x, hx⟩ : ∃ x, xs[k]? = some x := ⟨_, List.getElem?_eq_getElem hlt⟩
      obtain ⟨b, o, hA, hbB, kk, kv⟩ := PL.at_ (HS4.out.step hb) hx
      subst hA
      have j1 : (0 : Int) ≤ (k : Int) := by omega
      have j2 : (k : Int) < (xs.length : Int) := by omega
      have HX := Lib.hid (HG4.out x (List.mem_of_getElem? hx))
      have HYr := Lib.hid (HY4.out.step hb)
      have HBB := Lib.hid hbB
      clear hkg hb hx
      go_wp2_with fail
      have C5 := get_any A5 c5 ys x.1 wr HYr.out HYL.out
      have HX2 := HX.out
      generalize getR ys x.1 = r at C5 HX2
      obtain ⟨rv, rb⟩ := r
      obtain ⟨hx1, hx2⟩ := HX2
      dsimp only at hx1 hx2
      subst hx1
      unfold retG at C5
      refine C5.mono ?_
      clear C5
      rintro e w6 ⟨rfl, hb⟩
      have kk6 := (hb.cell (p := ⟨b, o + k * 2, none⟩) HBB.out).trans kk
      have kv6 := (hb.cell (p := ⟨b, o + k * 2 + 1, none⟩) HBB.out).trans kv
      have HB6 := Lib.hid (stepB HB.out hb)
      clear hb kk kv HX
      by_cases he : x.1 = key
      · have q1 := streq_yes he
        clear he hx2
        go_wp2
        go_roundg g
        case measure => omega
        case rel => exact ⟨k + 1, by have := HG.out; omega, congrArg (Value.int .i64) (by have h20 := HL.out; rw [wrap64_id _ (by omega) (by omega)]; omega), HB6.out⟩
      · have q1 := streq_no he
        obtain rfl := hx2 he
        clear he hx2
        go_wp2
        go_roundg g
        case measure => omega
        case rel => exact ⟨k + 1, by have := HG.out; omega, congrArg (Value.int .i64) (by have h20 := HL.out; rw [wrap64_id _ (by omega) (by omega)]; omega), HB6.out⟩

end Go.Proofs.YtlkkdompcbdbeaaDoor
