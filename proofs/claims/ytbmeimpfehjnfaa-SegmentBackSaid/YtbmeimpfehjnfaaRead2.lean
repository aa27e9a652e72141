/-
  What Num of the specification answers. Conditions: the position fits an int; so many bytes fit a slice.
-/
import Derived.Test.YtbmeimpfehjnfaaRead
namespace Go.Proofs.Ytbmeimpfehjnfaa
open Go.RowKit

theorem cell_at {w : World} {B : Nat} {A : Option Addr} {l : List UInt8} (h : CL bv w B A l) {k i : Nat} {x : UInt8} (hx : (l.drop k)[i]? = some x) : ∃ b o, A = some ⟨b, o, none⟩ ∧ b < B ∧ w.cell? ⟨b, o + (k + i), none⟩ = some (.int .u8 x.toNat) := by
  rw [List.getElem?_drop] at hx
  have hl := (List.getElem?_eq_some_iff.1 hx).1
  obtain ⟨b, o, e, hb, hc⟩ := h (by omega)
  exact ⟨b, o, e, hb, hc _ x hx⟩

set_option maxRecDepth 20000 in
set_option maxHeartbeats 2000000 in
theorem rNum_any (A : Option Addr) (c : Nat) (l : List UInt8) (p : Int) (hp1 : -9223372036854775808 ≤ p) (hp2 : p ≤ 9223372036854775807) (w : World) (B : Nat) (hsl : CL bv w B A l) (_hc : l.length ≤ c) (hn : l.length ≤ 140737488355328) :
    Calls Try.prog 50 #[.slice A l.length c, .int .i64 p] w fun e w' => e = tri .i64 (numR l p) ∧ w = w' := by
  by_cases h0 : p < 0
  · rw [numR_range (Or.inl h0)]
    clear hsl
    go_enter Try.func50, Try.ntmps50
    go_wp2
    go_ret3
    exact ⟨rfl, rfl⟩
  · obtain ⟨k, rfl⟩ := Int.eq_ofNat_of_zero_le (by omega : 0 ≤ p)
    by_cases h1 : l.length < k
    · rw [numR_range (Or.inr (by omega))]
      clear hsl
      go_enter Try.func50, Try.ntmps50
      go_wp2
      go_ret3
      exact ⟨rfl, rfl⟩
    · have hR := numR_in (l := l) (k := k) (by omega)
      generalize numR l (k : Int) = R at hR ⊢
      have HS : Hid (∀ (i : Nat) (x : UInt8), (l.drop k)[i]? = some x → _) := Lib.hid (fun i x hx => cell_at hsl hx)
      have hdl : k + (l.drop k).length = l.length := by rw [List.length_drop]; omega
      generalize hL : l.drop k = L at HS hdl hR ⊢
      have HE : Hid (∀ e : Nat, rdF 0 0 L = (e, 0, 0) → e ≠ 0 → R = (0, 0, (e : Int))) := Lib.hid (fun e he h => by rw [hR, he]; simp [h])
      have HK : Hid (∀ c n : Nat, rdF 0 0 L = (0, c, n) → R = (ncI c, (k : Int) + (n : Int), 0)) := Lib.hid (fun c n he => by rw [hR, he]; simp)
      clear hL hsl hR
      go_enter Try.func50, Try.ntmps50
      go_wp2
      go_loop [7, 8, 9, 10] (fun a q i _ => ∃ (k acc P : Nat), i = .int .i64 k ∧ a = .int .u64 acc ∧ q = .int .u64 P ∧ P = 128 ^ k ∧ RdRel L k acc) (fun _ _ i _ => L.length - (intOf i).toNat)
      case atStart => exact ⟨0, 0, 1, rfl, rfl, rfl, rfl, RdRel.start _⟩
      case round =>
        obtain ⟨i, acc, P, rfl, rfl, rfl, hP, hrel⟩ := hrel
        have hi1 := hrel.1
        have hi9 := hrel.2.1
        have HR := Lib.hid hrel
        have HP := Lib.hid hP
        clear hrel hP
        by_cases hlt : i < L.length
        · obtain ⟨x, hx⟩ : ∃ x, L[i]? = some x := ⟨_, List.getElem?_eq_getElem hlt⟩
          obtain ⟨b, o, rfl, hbB, k1⟩ := HS.out i x hx
          have hx256 : x.toNat < 256 := x.toNat_lt
          have HX := Lib.hid hx
          have hge : decide ((l.length : Int) - (k : Int) ≤ (i : Int)) = false := decide_eq_false (by omega)
          clear hx
          by_cases h9 : i = 9
          · subst h9
            have hP9 : P = 9223372036854775808 := by rw [HP.out]
            subst hP9
            by_cases hx1 : x.toNat = 1
            · have hdone := HK.out _ _ (HR.out.done HX.out (by omega) (by omega) (by omega))
              have hlt64 := HR.out.lt x.toNat (by omega) (by omega)
              rw [hx1] at hdone hlt64 k1
              have hV : acc + 1 * 128 ^ 9 = acc + 9223372036854775808 := by rw [HP.out, Nat.one_mul]
              rw [hV] at hdone hlt64
              have HD := Lib.hid hdone
              have HC := Lib.hid (number_any (acc + 9223372036854775808) hlt64)
              clear hdone hV hx1 hx256
              go_wp2_with (go_at_call 61; refine (HC.out _).mono ?_; rintro e w' ⟨rfl, rfl⟩)
              go_ret3
              exact ⟨by rw [HD.out]; exact tri3 rfl (by omega) rfl, rfl⟩
            · have h11 : ((x.toNat : Int) != 1) = true := by simp; omega
              have HH := Lib.hid hx1
              clear hx1
              go_wp2
              go_ret3
              exact ⟨congrArg (tri .i64) (HE.out 2 (HR.out.bad9 HX.out rfl HH.out) (by decide)).symm, rfl⟩
          · by_cases hz : x.toNat = 0 ∧ 0 < i
            · have HH := Lib.hid hz
              have hi0 : 0 < i := hz.2
              rw [hz.1] at k1
              have h9' : ((i : Int) == 9) = false := by simp; omega
              clear hz hx256 h9
              go_wp2
              go_ret3
              exact ⟨congrArg (tri .i64) (HE.out 2 (HR.out.bad0 HX.out HH.out.2 HH.out.1) (by decide)).symm, rfl⟩
            · have h9' : ((i : Int) == 9) = false := by simp; omega
              obtain ⟨V, hV⟩ : ∃ V, V = acc + (x.toNat % 128) * P := ⟨_, rfl⟩
              have hlt64 := HR.out.lt (x.toNat % 128) (by omega) (by omega)
              have hPP : P ≤ 72057594037927936 := by
                rw [HP.out]
                exact Nat.le_trans (Nat.pow_le_pow_right (by decide) (show i ≤ 8 by omega)) (by decide)
              rw [← HP.out, ← hV] at hlt64
              have hwA : IntKind.u64.wrap ((acc : Int) + IntKind.u64.wrap ((x.toNat : Int) % 128 * (P : Int))) = (V : Int) := by
                have e : (x.toNat : Int) % 128 * (P : Int) = (((x.toNat % 128) * P : Nat) : Int) := by rw [Int.natCast_mul]; rfl
                rw [e, wrap_u64_eq, wrap_u64_eq]
                generalize (x.toNat % 128) * P = Z at hV
                omega
              have HWP : Hid (IntKind.u64.wrap ((P : Int) * 128) = ((P * 128 : Nat) : Int)) := Lib.hid (by rw [wrap_u64_eq]; omega)
              have HV := Lib.hid hV
              have HLT := Lib.hid hlt64
              have HN9 := Lib.hid h9
              clear hV hPP hlt64 h9
              by_cases h128 : 128 ≤ x.toNat
              · have hnext : RdRel L (i + 1) V := by
                  rw [HV.out, HP.out]
                  exact HR.out.next HX.out HN9.out h128
                have HN := Lib.hid hnext
                clear hz hnext
                by_cases hi0 : 0 < i
                · go_wp2
                  exact ⟨⟨i + 1, V, P * 128, by go_num, rfl, congrArg (Value.int .u64) HWP.out, by rw [HP.out, pow128], HN.out⟩, by simp [intOf]; omega⟩
                · obtain rfl : i = 0 := by omega
                  have hacc0 : acc = 0 := by have := HR.out.2.2.1; omega
                  have hP1 : P = 1 := HP.out
                  have hV0 : V = x.toNat % 128 := by rw [HV.out, hacc0, hP1]; omega
                  subst hacc0
                  subst hP1
                  rw [hV0] at HN
                  rw [Nat.add_zero] at k1
                  clear hwA HV HLT HWP hV0
                  go_wp2
                  exact ⟨⟨1, x.toNat % 128, 128, rfl, by go_num, rfl, rfl, HN.out⟩, by simp [intOf]; omega⟩
              · have hd : rdF 0 0 L = (0, V, i + 1) := by
                  rw [HR.out.done HX.out (fun h => absurd h HN9.out) (by omega) (by omega), HV.out, HP.out, Nat.mod_eq_of_lt (by omega)]
                have HD := Lib.hid (HK.out _ _ hd)
                have HC := Lib.hid (number_any V HLT.out)
                clear hd
                by_cases hi0 : 0 < i
                · have hx0 : ¬ x.toNat = 0 := by omega
                  clear hz
                  go_wp2_with (go_at_call 61; refine (HC.out _).mono ?_; rintro e w' ⟨rfl, rfl⟩)
                  go_ret3
                  exact ⟨by rw [HD.out]; exact tri3 rfl (by omega) rfl, rfl⟩
                · obtain rfl : i = 0 := by omega
                  have hacc0 : acc = 0 := by have := HR.out.2.2.1; omega
                  have hP1 : P = 1 := HP.out
                  have hV0 : V = x.toNat := by rw [HV.out, hacc0, hP1]; omega
                  subst hacc0
                  subst hP1
                  rw [hV0] at HD HC
                  rw [Nat.add_zero] at k1
                  have hm : (x.toNat : Int) % 128 = (x.toNat : Int) := by omega
                  clear hwA HV HLT HWP hV0 hz
                  go_wp2_with (go_at_call 61; refine (HC.out _).mono ?_; rintro e w' ⟨rfl, rfl⟩)
                  go_ret3
                  exact ⟨by rw [HD.out]; exact tri3 rfl (by omega) rfl, rfl⟩
        · obtain rfl : i = L.length := by omega
          have hge : decide ((l.length : Int) - (k : Int) ≤ (L.length : Int)) = true := decide_eq_true (by omega)
          go_wp2
          go_ret3
          exact ⟨congrArg (tri .i64) (HE.out 3 (HR.out.trunc rfl) (by decide)).symm, rfl⟩
end Go.Proofs.Ytbmeimpfehjnfaa
