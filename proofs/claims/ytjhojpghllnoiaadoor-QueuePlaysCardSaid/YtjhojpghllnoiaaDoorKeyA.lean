/-
  What the specification's Key, Props, Get and SameProps answer, and few of brokerlaw05. Conditions: the lists read as data; lengths fit an int.
-/
import Derived.Test.YtjhojpghllnoiaaDoorMsg
import Derived.Deep.RegionHeld3
namespace Go.Proofs.YtjhojpghllnoiaaDoor
open Go.RowKit

theorem ret_i2 {k : IntKind} {a b : Int} (h : a = b) : Ending.returned (.int k a) = .returned (.int k b) := by rw [h]

set_option maxHeartbeats 1000000 in
theorem vKey_any (s : ByteArray) (w : World) (hs63 : s.size ≤ 9223372036854775807) :
    Calls Tryd.prog 74 #[.string s] w fun e w' => e = .returned (.bool (keyR s)) ∧ w = w' := by
  by_cases h0 : s.size < 1
  · have hf : keyR s = false := keyR_size (.inl h0)
    rw [hf]
    have hd : decide ((s.size : Int) < 1) = true := decide_eq_true (by omega)
    clear hf h0
    go_enter Tryd.func74, Tryd.ntmps74
    go_wp2
    go_ret
    exact ⟨rfl, rfl⟩
  have hd1 : decide ((s.size : Int) < 1) = false := decide_eq_false (by omega)
  by_cases h16 : 16 < s.size
  · have hf : keyR s = false := keyR_size (.inr (by omega))
    rw [hf]
    have hd : decide ((16 : Int) < (s.size : Int)) = true := decide_eq_true (by omega)
    clear hf
    go_enter Tryd.func74, Tryd.ntmps74
    go_wp2
    go_ret
    exact ⟨rfl, rfl⟩
  have hd : decide ((16 : Int) < (s.size : Int)) = false := decide_eq_false (by omega)
  have HZ1 : Hid (1 ≤ s.size ∧ s.size ≤ 16) := Lib.hid ⟨by omega, by omega⟩
  clear h0 h16
  go_enter Tryd.func74, Tryd.ntmps74
  go_wp2
  go_loop [3] (fun v => ∃ i : Nat, i ≤ s.size ∧ v = .int .i64 i ∧ KeyUpto (dl s) i) (fun v => s.size - (intOf v).toNat)
  case atStart => exact ⟨0, by omega, rfl, fun _ _ h => absurd h (Nat.not_lt_zero _)⟩
  case round =>
    obtain ⟨i, hi, rfl, hno⟩ := hrel
    have HN := Lib.hid hno
    clear hno
    by_cases hlt : i < s.size
    · obtain ⟨x, hx⟩ : ∃ x : UInt8, s[i]'hlt = x := ⟨_, rfl⟩
      have HX : Hid ((dl s)[i]? = some x) := Lib.hid (by
        have h1 : i < (dl s).length := by rw [← size_dl]; exact hlt
        rw [List.getElem?_eq_getElem h1, ← hx]
        rfl)
      have e3 : decide ((i : Int) < (s.size : Int)) = true := decide_eq_true (by omega)
      rcases (by omega : (97 ≤ x.toNat ∧ x.toNat ≤ 122) ∨ (122 < x.toNat) ∨ (48 ≤ x.toNat ∧ x.toNat ≤ 57) ∨ (57 < x.toNat ∧ x.toNat < 97) ∨ (x.toNat = 45) ∨ (x.toNat < 48 ∧ x.toNat ≠ 45)) with h | h | h | h | h | h
      · have q0 : decide ((97 : Int) ≤ (x.toNat : Int)) = true := decide_eq_true (by omega)
        have q1 : decide ((x.toNat : Int) ≤ 122) = true := decide_eq_true (by omega)
        have HK : Hid (keyC x = true) := Lib.hid (by unfold keyC; rw [Bool.eq_iff_iff]; simp; omega)
        clear h
        go_wp2
        exact ⟨⟨i + 1, by omega, by go_num, HN.out.succ HX.out HK.out⟩, by simp [intOf]; omega⟩
      · have q0 : decide ((97 : Int) ≤ (x.toNat : Int)) = true := decide_eq_true (by omega)
        have q1 : decide ((x.toNat : Int) ≤ 122) = false := decide_eq_false (by omega)
        have q2 : decide ((48 : Int) ≤ (x.toNat : Int)) = true := decide_eq_true (by omega)
        have q3 : decide ((x.toNat : Int) ≤ 57) = false := decide_eq_false (by omega)
        have q4 : ((x.toNat : Int) != 45) = true := by rw [bne_iff_ne]; omega
        have HK : Hid (keyC x = false) := Lib.hid (by unfold keyC; rw [Bool.eq_iff_iff]; simp; omega)
        clear h
        go_wp2
        go_ret
        exact ⟨retb (keyR_bad HX.out HK.out).symm, rfl⟩
      · have q0 : decide ((97 : Int) ≤ (x.toNat : Int)) = false := decide_eq_false (by omega)
        have q2 : decide ((48 : Int) ≤ (x.toNat : Int)) = true := decide_eq_true (by omega)
        have q3 : decide ((x.toNat : Int) ≤ 57) = true := decide_eq_true (by omega)
        have HK : Hid (keyC x = true) := Lib.hid (by unfold keyC; rw [Bool.eq_iff_iff]; simp; omega)
        clear h
        go_wp2
        exact ⟨⟨i + 1, by omega, by go_num, HN.out.succ HX.out HK.out⟩, by simp [intOf]; omega⟩
      · have q0 : decide ((97 : Int) ≤ (x.toNat : Int)) = false := decide_eq_false (by omega)
        have q2 : decide ((48 : Int) ≤ (x.toNat : Int)) = true := decide_eq_true (by omega)
        have q3 : decide ((x.toNat : Int) ≤ 57) = false := decide_eq_false (by omega)
        have q4 : ((x.toNat : Int) != 45) = true := by rw [bne_iff_ne]; omega
        have HK : Hid (keyC x = false) := Lib.hid (by unfold keyC; rw [Bool.eq_iff_iff]; simp; omega)
        clear h
        go_wp2
        go_ret
        exact ⟨retb (keyR_bad HX.out HK.out).symm, rfl⟩
      · have q0 : decide ((97 : Int) ≤ (x.toNat : Int)) = false := decide_eq_false (by omega)
        have q2 : decide ((48 : Int) ≤ (x.toNat : Int)) = false := decide_eq_false (by omega)
        have q4 : ((x.toNat : Int) != 45) = false := by simp; omega
        have HK : Hid (keyC x = true) := Lib.hid (by unfold keyC; rw [Bool.eq_iff_iff]; simp; omega)
        clear h
        go_wp2
        exact ⟨⟨i + 1, by omega, by go_num, HN.out.succ HX.out HK.out⟩, by simp [intOf]; omega⟩
      · have q0 : decide ((97 : Int) ≤ (x.toNat : Int)) = false := decide_eq_false (by omega)
        have q2 : decide ((48 : Int) ≤ (x.toNat : Int)) = false := decide_eq_false (by omega)
        have q4 : ((x.toNat : Int) != 45) = true := by rw [bne_iff_ne]; omega
        have HK : Hid (keyC x = false) := Lib.hid (by unfold keyC; rw [Bool.eq_iff_iff]; simp; omega)
        clear h
        go_wp2
        go_ret
        exact ⟨retb (keyR_bad HX.out HK.out).symm, rfl⟩
    · obtain rfl : i = s.size := by omega
      have HF := Lib.hid (keyR_done HN.out HZ1.out.1 HZ1.out.2)
      have e3 : decide ((s.size : Int) < (s.size : Int)) = false := decide_eq_false (by omega)
      skip
      go_wp2
      go_ret
      exact ⟨retb HF.out.symm, rfl⟩


end Go.Proofs.YtjhojpghllnoiaaDoor
