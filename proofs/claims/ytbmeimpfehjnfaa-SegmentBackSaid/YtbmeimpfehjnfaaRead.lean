/-
  What Num and Count answer, of the program and of the specification. Conditions: the position fits an int; so many bytes fit a slice.
-/
import Derived.Test.YtbmeimpfehjnfaaMem2
namespace Go.Proofs.Ytbmeimpfehjnfaa
open Go.RowKit

/-- the number, the position behind it, the error -/
def numR (l : List UInt8) (p : Int) : Int × Int × Int :=
  if p < 0 ∨ (l.length : Int) < p then (0, 0, 1)
  else if (rdF 0 0 (l.drop p.toNat)).1 = 0 then (ncI (rdF 0 0 (l.drop p.toNat)).2.1, p + (rdF 0 0 (l.drop p.toNat)).2.2, 0)
  else (0, 0, (rdF 0 0 (l.drop p.toNat)).1)
def tri (k : IntKind) (r : Int × Int × Int) : Ending := .returned (.tuple #[.int k r.1, .int .i64 r.2.1, .int .i64 r.2.2])
theorem tri3 {k : IntKind} {a a' b b' c c' : Int} (h1 : a = a') (h2 : b = b') (h3 : c = c') : Ending.returned (.tuple #[.int k a, .int .i64 b, .int .i64 c]) = tri k (a', b', c') := by subst h1; subst h2; subst h3; rfl
theorem numR_range {l : List UInt8} {p : Int} (h : p < 0 ∨ (l.length : Int) < p) : numR l p = (0, 0, 1) := by
  unfold numR
  rw [if_pos h]
theorem numR_in {l : List UInt8} {k : Nat} (hk : k ≤ l.length) : numR l (k : Int) =
    if (rdF 0 0 (l.drop k)).1 = 0 then (ncI (rdF 0 0 (l.drop k)).2.1, (k : Int) + ((rdF 0 0 (l.drop k)).2.2 : Int), 0) else (0, 0, ((rdF 0 0 (l.drop k)).1 : Int)) := by
  unfold numR
  rw [if_neg (by omega), Int.toNat_natCast]

/-- after i bytes of what is read -/
def RdRel (l : List UInt8) (i acc : Nat) : Prop := i ≤ l.length ∧ i ≤ 9 ∧ acc < 128 ^ i ∧ rdF 0 0 l = rdF i acc (l.drop i)
theorem RdRel.start (l : List UInt8) : RdRel l 0 0 := ⟨by omega, by omega, by simp, rfl⟩
theorem rdF_cons (i acc : Nat) (c : UInt8) (r : List UInt8) : rdF i acc (c :: r) =
    if i = 9 ∧ 1 < c.toNat then (2, 0, 0)
    else if 128 ≤ c.toNat then rdF (i + 1) (acc + (c.toNat % 128) * 128 ^ i) r
    else if c.toNat = 0 ∧ 0 < i then (2, 0, 0)
    else (0, acc + c.toNat * 128 ^ i, i + 1) := by rw [rdF]
theorem drop_at {l : List UInt8} {i : Nat} {x : UInt8} (hx : l[i]? = some x) : l.drop i = x :: l.drop (i + 1) := by
  obtain ⟨h, e⟩ := List.getElem?_eq_some_iff.1 hx
  rw [List.drop_eq_getElem_cons h, e]
theorem RdRel.next {l : List UInt8} {i acc : Nat} (h : RdRel l i acc) {x : UInt8} (hx : l[i]? = some x) (h9 : i ≠ 9) (h128 : 128 ≤ x.toNat) : RdRel l (i + 1) (acc + (x.toNat % 128) * 128 ^ i) := by
  obtain ⟨h1, h2, h3, h4⟩ := h
  have hl := (List.getElem?_eq_some_iff.1 hx).1
  refine ⟨by omega, by omega, ?_, ?_⟩
  · rw [pow128, Nat.mul_comm (128 ^ i) 128]
    have : (x.toNat % 128) * 128 ^ i ≤ 127 * 128 ^ i := Nat.mul_le_mul (by omega) (Nat.le_refl _)
    omega
  · rw [h4, drop_at hx, rdF_cons, if_neg (by omega), if_pos h128]
theorem RdRel.trunc {l : List UInt8} {i acc : Nat} (h : RdRel l i acc) (hi : i = l.length) : rdF 0 0 l = (3, 0, 0) := by
  rw [h.2.2.2, hi, List.drop_length]
  rfl
theorem RdRel.bad9 {l : List UInt8} {i acc : Nat} (h : RdRel l i acc) {x : UInt8} (hx : l[i]? = some x) (h9 : i = 9) (h1 : x.toNat ≠ 1) : rdF 0 0 l = (2, 0, 0) := by
  have hx256 := x.toNat_lt
  rw [h.2.2.2, drop_at hx, rdF_cons]
  by_cases h2 : 1 < x.toNat
  · rw [if_pos ⟨h9, h2⟩]
  · rw [if_neg (by omega), if_neg (by omega), if_pos (by omega)]
theorem RdRel.bad0 {l : List UInt8} {i acc : Nat} (h : RdRel l i acc) {x : UInt8} (hx : l[i]? = some x) (h9 : 0 < i) (h1 : x.toNat = 0) : rdF 0 0 l = (2, 0, 0) := by
  rw [h.2.2.2, drop_at hx, rdF_cons, if_neg (by omega), if_neg (by omega), if_pos (by omega)]
theorem RdRel.done {l : List UInt8} {i acc : Nat} (h : RdRel l i acc) {x : UInt8} (hx : l[i]? = some x) (h9 : i = 9 → x.toNat ≤ 1) (h128 : x.toNat < 128) (h0 : 0 < i → x.toNat ≠ 0) : rdF 0 0 l = (0, acc + x.toNat * 128 ^ i, i + 1) := by
  rw [h.2.2.2, drop_at hx, rdF_cons, if_neg (by omega), if_neg (by omega), if_neg (by omega)]
theorem RdRel.lt {l : List UInt8} {i acc : Nat} (h : RdRel l i acc) (x : Nat) (hx : x < 128) (h9 : i = 9 → x ≤ 1) : acc + x * 128 ^ i < 18446744073709551616 := by
  obtain ⟨_, h2, h3, _⟩ := h
  by_cases hi : i = 9
  · subst hi
    have := h9 rfl
    have e : 128 ^ 9 = 9223372036854775808 := by decide
    rw [e] at h3 ⊢
    omega
  · have : x * 128 ^ i ≤ 127 * 128 ^ i := Nat.mul_le_mul (by omega) (Nat.le_refl _)
    have hp : 128 ^ i ≤ 128 ^ 8 := Nat.pow_le_pow_right (by decide) (by omega)
    have e : 128 ^ 8 = 72057594037927936 := by decide
    rw [e] at hp
    omega

theorem RdRel.acc {l : List UInt8} {i acc : Nat} (h : RdRel l i acc) (y : Nat) (hy : y < 128) (h9 : i = 9 → y ≤ 1) : bits .or .u64 (acc : Int) (IntKind.u64.wrap ((y : Int) * 2 ^ (7 * i))) = ((acc + y * 128 ^ i : Nat) : Int) := by
  have hlt := h.lt y hy h9
  obtain ⟨_, h2, h3, _⟩ := h
  have e1 : (2 : Nat) ^ (7 * i) = 128 ^ i := by rw [Nat.pow_mul]
  have e2 : ((y : Int) * 2 ^ (7 * i)) = ((y * 128 ^ i : Nat) : Int) := by
    rw [Int.natCast_mul, ← e1]
    simp
  rw [e2, wrap_u64_eq]
  have e3 : ((y * 128 ^ i : Nat) : Int) % 18446744073709551616 = ((y * 128 ^ i : Nat) : Int) := by omega
  rw [e3, u64_or_nat _ _ (by omega) (by omega)]
  have h4 := Nat.two_pow_add_eq_or_of_lt (i := 7 * i) (b := acc) (by rw [e1]; exact h3) y
  rw [e1] at h4
  congr 1
  rw [Nat.or_comm, Nat.mul_comm y, ← h4, Nat.add_comm]
theorem and128 (x : UInt8) (h : 128 ≤ x.toNat) : bits .and .u8 (x.toNat : Int) 128 = 128 := by
  have : ∀ y : Fin 256, 128 ≤ y.val → bits .and .u8 (y.val : Int) 128 = 128 := by decide +kernel
  exact this ⟨x.toNat, x.toNat_lt⟩ h
theorem and128' (x : UInt8) (h : x.toNat < 128) : bits .and .u8 (x.toNat : Int) 128 = 0 := by
  have : ∀ y : Fin 256, y.val < 128 → bits .and .u8 (y.val : Int) 128 = 0 := by decide +kernel
  exact this ⟨x.toNat, x.toNat_lt⟩ h
theorem and127 (x : UInt8) : bits .and .u8 (x.toNat : Int) 127 = ((x.toNat % 128 : Nat) : Int) := by
  have : ∀ y : Fin 256, bits .and .u8 (y.val : Int) 127 = ((y.val % 128 : Nat) : Int) := by decide +kernel
  exact this ⟨x.toNat, x.toNat_lt⟩

set_option maxHeartbeats 1000000 in
set_option maxRecDepth 20000 in
theorem num_any (A : Option Addr) (c : Nat) (l : List UInt8) (p : Int) (hp1 : -9223372036854775808 ≤ p) (hp2 : p ≤ 9223372036854775807) (w : World) (B : Nat) (hsl : CL bv w B A l) (hc : l.length ≤ c) (hn : l.length ≤ 140737488355328) :
    Calls Try.prog 58 #[.slice A l.length c, .int .i64 p] w fun e w' => e = tri .i64 (numR l p) ∧ w = w' := by
  by_cases h0 : p < 0
  · rw [numR_range (Or.inl h0)]
    clear hsl
    go_enter Try.func58, Try.ntmps58
    go_wp2
    go_ret3
    exact ⟨rfl, rfl⟩
  · obtain ⟨k, rfl⟩ := Int.eq_ofNat_of_zero_le (by omega : 0 ≤ p)
    by_cases h1 : l.length < k
    · rw [numR_range (Or.inr (by omega))]
      clear hsl
      go_enter Try.func58, Try.ntmps58
      go_wp2
      go_ret3
      exact ⟨rfl, rfl⟩
    · have hR := numR_in (l := l) (k := k) (by omega)
      generalize numR l (k : Int) = R at hR ⊢
      obtain ⟨A2, hs, hcl2⟩ := slice_l A c l k (by omega) hc
      have HS := Lib.hid (hcl2 w B hsl)
      have hdl : k + (l.drop k).length = l.length := by rw [List.length_drop]; omega
      generalize hL : l.drop k = L at hs HS hdl hR ⊢
      have HE : Hid (∀ e : Nat, rdF 0 0 L = (e, 0, 0) → e ≠ 0 → R = (0, 0, (e : Int))) := Lib.hid (fun e he h => by rw [hR, he]; simp [h])
      have HK : Hid (∀ c n : Nat, rdF 0 0 L = (0, c, n) → R = (ncI c, (k : Int) + (n : Int), 0)) := Lib.hid (fun c n he => by rw [hR, he]; simp)
      clear hL hcl2 hsl hR
      have hs' := hs w
      clear hs
      go_enter Try.func58, Try.ntmps58
      go_wp2
      go_loop [7, 8, 9, 22] (fun a _ _ i => ∃ (k acc : Nat), i = .int .i64 k ∧ a = .int .u64 acc ∧ RdRel L k acc) (fun _ _ _ i => L.length - (intOf i).toNat)
      case atStart => exact ⟨0, 0, rfl, rfl, RdRel.start _⟩
      case round =>
        obtain ⟨i, acc, rfl, rfl, hrel⟩ := hrel
        have hi1 := hrel.1
        have hi9 := hrel.2.1
        have HR := Lib.hid hrel
        clear hrel
        by_cases hlt : i < L.length
        · obtain ⟨b, o, rfl, hbB, hcl⟩ := HS.out (by omega)
          obtain ⟨x, hx⟩ : ∃ x, L[i]? = some x := ⟨_, List.getElem?_eq_getElem hlt⟩
          have k1 := hcl i x hx
          unfold bv at k1
          have hx256 : x.toNat < 256 := x.toNat_lt
          have HX := Lib.hid hx
          have h127 := and127 x
          clear hcl hx
          by_cases hc1 : i = 9 ∧ 1 < x.toNat
          · have h9 : ((i : Int) == 9) = true := by simp; omega
            have hx1 : decide ((1 : Int) < (x.toNat : Int)) = true := decide_eq_true (by omega)
            have HH := Lib.hid hc1
            clear hc1
            go_wp2
            go_ret3
            exact ⟨congrArg (tri .i64) (HE.out 2 (HR.out.bad9 HX.out HH.out.1 (by have := HH.out.2; omega)) (by decide)).symm, rfl⟩
          · by_cases h128 : 128 ≤ x.toNat
            · have h9 : ((i : Int) == 9) = false := by simp; omega
              have ha := and128 x h128
              have HN9 : Hid (i ≠ 9) := Lib.hid (by omega)
              clear hc1
              go_wp2
              exact ⟨⟨i + 1, _, by go_num, congrArg (Value.int .u64) (HR.out.acc (x.toNat % 128) (by omega) (fun h => absurd h HN9.out)), HR.out.next HX.out HN9.out h128⟩, by simp [intOf]; omega⟩
            · by_cases hz : x.toNat = 0 ∧ 0 < i
              · have HH := Lib.hid hz
                have hi0 : 0 < i := hz.2
                rw [hz.1] at k1
                have b1 : bits .and .u8 0 127 = 0 := by decide +kernel
                have b2 : bits .and .u8 0 128 = 0 := by decide +kernel
                clear hz hc1 h128 h127 hx256
                go_wp2
                all_goals
                  go_ret3
                  exact ⟨congrArg (tri .i64) (HE.out 2 (HR.out.bad0 HX.out HH.out.2 HH.out.1) (by decide)).symm, rfl⟩
              · have hdone := HK.out _ _ (HR.out.done HX.out (by omega) (by omega) (by omega))
                have hac := HR.out.acc x.toNat (by omega) (by omega)
                have hlt64 := HR.out.lt x.toNat (by omega) (by omega)
                obtain ⟨V, hV⟩ : ∃ V, V = acc + x.toNat * 128 ^ i := ⟨_, rfl⟩
                rw [← hV] at hac hlt64 hdone
                have HV := Lib.hid hV
                clear hV
                have HD := Lib.hid hdone
                have HC := Lib.hid (decoded_any V hlt64)
                clear hdone
                by_cases h9 : i = 9
                · subst h9
                  have hx1 : x.toNat = 1 := by omega
                  rw [hx1] at k1
                  have hac9 : bits .or .u64 (acc : Int) 9223372036854775808 = (V : Int) := by
                    rw [← hac, hx1, wrap_u64_eq]
                    rfl
                  have b1 : bits .and .u8 1 127 = 1 := by decide +kernel
                  have b2 : bits .and .u8 1 128 = 0 := by decide +kernel
                  clear hac hz hc1 h128 h127 hx256 hx1
                  go_wp2_with (go_at_call 67; refine (HC.out _).mono ?_; rintro e w' ⟨rfl, rfl⟩)
                  go_ret3
                  exact ⟨congrArg (tri .i64) HD.out.symm, rfl⟩
                · by_cases hx0 : x.toNat = 0
                  · obtain rfl : i = 0 := by omega
                    have hacc0 : acc = 0 := by have := HR.out.2.2.1; omega
                    have hV0 : V = 0 := by rw [HV.out, hacc0, hx0]
                    subst hV0
                    subst hacc0
                    rw [hx0] at k1
                    have b1 : bits .and .u8 0 127 = 0 := by decide +kernel
                    have b2 : bits .and .u8 0 128 = 0 := by decide +kernel
                    have b3 : bits .or .u64 0 0 = 0 := by decide +kernel
                    rw [Nat.add_zero] at k1
                    clear hac hz hc1 h128 h127 hx256 hx0 h9
                    go_wp2_with (go_at_call 67; refine (HC.out _).mono ?_; rintro e w' ⟨rfl, rfl⟩)
                    go_ret3
                    exact ⟨by rw [HD.out]; exact tri3 rfl (by omega) rfl, rfl⟩
                  · have ha := and128' x (by omega)
                    have h9' : ((i : Int) == 9) = false := by simp; omega
                    have hq : ((x.toNat : Int) == 0) = false := by simp; omega
                    rw [show x.toNat % 128 = x.toNat by omega] at h127
                    have hac2 : bits .or .u64 (acc : Int) (IntKind.u64.wrap ((x.toNat : Int) % 128 * 2 ^ (7 * i))) = (V : Int) := by
                      rw [show (x.toNat : Int) % 128 = (x.toNat : Int) by omega]
                      exact hac
                    clear hz hc1 h9
                    go_wp2_with (go_at_call 67; refine (HC.out _).mono ?_; rintro e w' ⟨rfl, rfl⟩)
                    go_ret3
                    exact ⟨by rw [HD.out]; exact tri3 rfl (by omega) rfl, rfl⟩
        · obtain rfl : i = L.length := by omega
          go_wp2
          go_ret3
          exact ⟨congrArg (tri .i64) (HE.out 3 (HR.out.trunc rfl) (by decide)).symm, rfl⟩
end Go.Proofs.Ytbmeimpfehjnfaa
