/-
What the specification's Key, Props, Get and SameProps answer, and few of brokerlaw05. Conditions: the lists read as data; lengths fit an int.
What the specification's Props, Get and SameProps answer, and few of brokerlaw05. Conditions: the lists read as data; lengths fit an int.
What validKey, checkProp, Props and Get of message answer. Conditions: the lists read as data; lengths fit an int.
What Props of message answers. Conditions: the list reads as data; lengths fit an int.
-/
import Derived.Test.YtdkegoaflabjoaaGreatDoorMsg
import Derived.Test.YtdkegoaflabjoaaGreatDoorNames
import Derived.BigQuiet
import Derived.Deep.LoopGhost
import Derived.Deep.QuietTactic
import Derived.Deep.RegionHeld3
import Derived.Laws.RangeAny
import Derived.Laws.RangeString
set_option maxHeartbeats 4000000
set_option maxRecDepth 20000
namespace Go.Proofs.YtdkegoaflabjoaaGreatDoor
open Go.RowKit

theorem ret_i2 {k : IntKind} {a b : Int} (h : a = b) : Ending.returned (.int k a) = .returned (.int k b) := by rw [h]

theorem vKey_any (s : ByteArray) (w : World) (hs63 : s.size ≤ 9223372036854775807) :
 Calls Tryz.prog 115 #[.string s] w fun e w' => e = .returned (.bool (keyR s)) ∧ w = w' := by
 by_cases h0 : s.size < 1
 · have hf : keyR s = false := keyR_size (.inl h0)
   rw [hf]
   have hd : decide ((s.size : Int) < 1) = true := decide_eq_true (by omega)
   clear hf h0
   go_enter Tryz.func115, Tryz.ntmps115
   go_wp2
   go_ret
   exact ⟨rfl, rfl⟩
 have hd1 : decide ((s.size : Int) < 1) = false := decide_eq_false (by omega)
 by_cases h16 : 16 < s.size
 · have hf : keyR s = false := keyR_size (.inr (by omega))
   rw [hf]
   have hd : decide ((16 : Int) < (s.size : Int)) = true := decide_eq_true (by omega)
   clear hf
   go_enter Tryz.func115, Tryz.ntmps115
   go_wp2
   go_ret
   exact ⟨rfl, rfl⟩
 have hd : decide ((16 : Int) < (s.size : Int)) = false := decide_eq_false (by omega)
 have HZ1 : Hid (1 ≤ s.size ∧ s.size ≤ 16) := Lib.hid ⟨by omega, by omega⟩
 clear h0 h16
 go_enter Tryz.func115, Tryz.ntmps115
 go_wp2
 go_loop [3] (fun v => ∃ i : Nat, i ≤ s.size ∧ v = .int .i64 i ∧ KeyUpto (dl s) i) (fun v => s.size - (intOf v).toNat)
 case atStart => exact ⟨0, by omega, rfl, fun _ _ h => absurd h (Nat.not_lt_zero _)⟩
 case round =>
  obtain ⟨i, hi, rfl, hno⟩ := hrel
  have HN := Lib.hid hno
  clear hno
  by_cases hlt : i < s.size
  · obtain ⟨x, hx⟩ : ∃ x : UInt8, s[i]'hlt = x := ⟨_, rfl⟩
    have HX : Hid ((dl s)[i]? = some x) := Lib.hid (by
     have h1 : i < (dl s).length := by rw [← size_dl]; exact hlt
     rw [List.getElem?_eq_getElem h1, ← hx]
     rfl)
    have e3 : decide ((i : Int) < (s.size : Int)) = true := decide_eq_true (by omega)
    rcases (by omega : (97 ≤ x.toNat ∧ x.toNat ≤ 122) ∨ (122 < x.toNat) ∨ (48 ≤ x.toNat ∧ x.toNat ≤ 57) ∨ (57 < x.toNat ∧ x.toNat < 97) ∨ (x.toNat = 45) ∨ (x.toNat < 48 ∧ x.toNat ≠ 45)) with h | h | h | h | h | h
    · have q0 : decide ((97 : Int) ≤ (x.toNat : Int)) = true := decide_eq_true (by omega)
      have q1 : decide ((x.toNat : Int) ≤ 122) = true := decide_eq_true (by omega)
      have HK : Hid (keyC x = true) := Lib.hid (by unfold keyC; rw [Bool.eq_iff_iff]; simp; omega)
      clear h
      go_wp2
      exact ⟨⟨i + 1, by omega, by go_num, HN.out.succ HX.out HK.out⟩, by simp [intOf]; omega⟩
    · have q0 : decide ((97 : Int) ≤ (x.toNat : Int)) = true := decide_eq_true (by omega)
      have q1 : decide ((x.toNat : Int) ≤ 122) = false := decide_eq_false (by omega)
      have q2 : decide ((48 : Int) ≤ (x.toNat : Int)) = true := decide_eq_true (by omega)
      have q3 : decide ((x.toNat : Int) ≤ 57) = false := decide_eq_false (by omega)
      have q4 : ((x.toNat : Int) != 45) = true := by rw [bne_iff_ne]; omega
      have HK : Hid (keyC x = false) := Lib.hid (by unfold keyC; rw [Bool.eq_iff_iff]; simp; omega)
      clear h
      go_wp2
      go_ret
      exact ⟨retb (keyR_bad HX.out HK.out).symm, rfl⟩
    · have q0 : decide ((97 : Int) ≤ (x.toNat : Int)) = false := decide_eq_false (by omega)
      have q2 : decide ((48 : Int) ≤ (x.toNat : Int)) = true := decide_eq_true (by omega)
      have q3 : decide ((x.toNat : Int) ≤ 57) = true := decide_eq_true (by omega)
      have HK : Hid (keyC x = true) := Lib.hid (by unfold keyC; rw [Bool.eq_iff_iff]; simp; omega)
      clear h
      go_wp2
      exact ⟨⟨i + 1, by omega, by go_num, HN.out.succ HX.out HK.out⟩, by simp [intOf]; omega⟩
    · have q0 : decide ((97 : Int) ≤ (x.toNat : Int)) = false := decide_eq_false (by omega)
      have q2 : decide ((48 : Int) ≤ (x.toNat : Int)) = true := decide_eq_true (by omega)
      have q3 : decide ((x.toNat : Int) ≤ 57) = false := decide_eq_false (by omega)
      have q4 : ((x.toNat : Int) != 45) = true := by rw [bne_iff_ne]; omega
      have HK : Hid (keyC x = false) := Lib.hid (by unfold keyC; rw [Bool.eq_iff_iff]; simp; omega)
      clear h
      go_wp2
      go_ret
      exact ⟨retb (keyR_bad HX.out HK.out).symm, rfl⟩
    · have q0 : decide ((97 : Int) ≤ (x.toNat : Int)) = false := decide_eq_false (by omega)
      have q2 : decide ((48 : Int) ≤ (x.toNat : Int)) = false := decide_eq_false (by omega)
      have q4 : ((x.toNat : Int) != 45) = false := by simp; omega
      have HK : Hid (keyC x = true) := Lib.hid (by unfold keyC; rw [Bool.eq_iff_iff]; simp; omega)
      clear h
      go_wp2
      exact ⟨⟨i + 1, by omega, by go_num, HN.out.succ HX.out HK.out⟩, by simp [intOf]; omega⟩
    · have q0 : decide ((97 : Int) ≤ (x.toNat : Int)) = false := decide_eq_false (by omega)
      have q2 : decide ((48 : Int) ≤ (x.toNat : Int)) = false := decide_eq_false (by omega)
      have q4 : ((x.toNat : Int) != 45) = true := by rw [bne_iff_ne]; omega
      have HK : Hid (keyC x = false) := Lib.hid (by unfold keyC; rw [Bool.eq_iff_iff]; simp; omega)
      clear h
      go_wp2
      go_ret
      exact ⟨retb (keyR_bad HX.out HK.out).symm, rfl⟩
  · obtain rfl : i = s.size := by omega
    have HF := Lib.hid (keyR_done HN.out HZ1.out.1 HZ1.out.2)
    have e3 : decide ((s.size : Int) < (s.size : Int)) = false := decide_eq_false (by omega)
    skip
    go_wp2
    go_ret
    exact ⟨retb HF.out.symm, rfl⟩

end Go.Proofs.YtdkegoaflabjoaaGreatDoor
namespace Go.Proofs.YtdkegoaflabjoaaGreatDoor
open Go.RowKit

theorem nxt (k : Nat) (h : k ≤ 9223372036854775806) : Value.int .i64 (wrap64 ((k : Int) + 1)) = .int .i64 ((k + 1 : Nat) : Int) := by rw [wrap64_id _ (by omega) (by omega)]; rfl

def prevK (l : List PR) (k : Nat) : Option ByteArray := if k = 0 then none else (l[k - 1]?).map (·.1)
def PropsRel (l : List PR) (k : Nat) : Prop := propsF none l = propsF (prevK l k) (l.drop k)
theorem PropsRel.start (l : List PR) : PropsRel l 0 := rfl
theorem drop_at2 {l : List PR} {k : Nat} {x : PR} (hx : l[k]? = some x) : l.drop k = x :: l.drop (k + 1) := by
 obtain ⟨h, rfl⟩ := List.getElem?_eq_some_iff.1 hx
 exact List.drop_eq_getElem_cons h
theorem propsF_cons (p : Option ByteArray) (x : PR) (r : List PR) : propsF p (x :: r) = if keyR x.1 = false then 16 else if 160 < x.2.size then 5 else if (match p with | none => false | some q => !ltS q x.1) = true then 16 else propsF (some x.1) r := by cases p <;> rfl
theorem propsF_nil (p : Option ByteArray) : propsF p [] = 0 := by cases p <;> rfl
theorem PropsRel.unf {l : List PR} {k : Nat} {x : PR} (h : PropsRel l k) (hx : l[k]? = some x) :
 propsF none l = if keyR x.1 = false then 16 else if 160 < x.2.size then 5 else if (match prevK l k with | none => false | some q => !ltS q x.1) = true then 16 else propsF (some x.1) (l.drop (k + 1)) := by
 unfold PropsRel at h
 rw [h, drop_at2 hx, propsF_cons]
theorem PropsRel.next {l : List PR} {k : Nat} {x : PR} (h : PropsRel l k) (hx : l[k]? = some x) (h1 : keyR x.1 = true) (h2 : ¬ 160 < x.2.size) (h3 : (match prevK l k with | none => false | some q => !ltS q x.1) = false) : PropsRel l (k + 1) := by
 have h0 := h.unf hx
 rw [if_neg (by simp [h1]), if_neg h2, if_neg (by rw [h3]; simp)] at h0
 unfold PropsRel
 rw [h0]
 unfold prevK
 rw [if_neg (by omega), Nat.add_sub_cancel, hx]
 rfl
theorem PropsRel.done {l : List PR} (h : PropsRel l l.length) : propsF none l = 0 := by
 unfold PropsRel at h
 rw [h, List.drop_length, propsF_nil]

theorem vProps_any (A : Option Addr) (c : Nat) (l : List PR) (w : World) (hsl : PL w w.heap.size A l) (hz : ∀ x ∈ l, x.1.size ≤ 9223372036854775807) :
 Calls Tryz.prog 96 #[.slice A l.length c] w fun e w' => e = .returned (.int .i64 (propsR l)) ∧ Below w.heap.size w w' := by
 unfold propsR
 by_cases h8 : 8 < l.length
 · rw [if_pos h8]
   have hd : decide ((8 : Int) < (l.length : Int)) = true := decide_eq_true (by omega)
   clear hsl hz
   go_enter Tryz.func96, Tryz.ntmps96
   go_wp2
   go_ret
   exact ⟨rfl, Below.refl _ _⟩
 rw [if_neg h8]
 have hd : decide ((8 : Int) < (l.length : Int)) = false := decide_eq_false (by omega)
 have HS := Lib.hid hsl
 have HZ := Lib.hid hz
 have H8 := Lib.hid h8
 clear hsl hz h8
 go_enter Tryz.func96, Tryz.ntmps96
 go_wp2
 go_loopg [3] l.length (fun g v wr => ∃ k : Nat, k + g = l.length ∧ v = .int .i64 k ∧ PropsRel l k ∧ Below w.heap.size w wr)
 case atStart => exact ⟨0, by omega, rfl, PropsRel.start _, Below.refl _ _⟩
 case round =>
  obtain ⟨k, hkg, rfl, hrel, hb⟩ := hrel
  have HR := Lib.hid hrel
  have HB := Lib.hid hb
  have HG := Lib.hid hkg
  clear hrel
  cases gk with
  | zero =>
    obtain rfl : k = l.length := by omega
    have HV : Hid (propsF none l = 0) := Lib.hid (PropsRel.done HR.out)
    clear hkg hb
    go_wp2
    go_ret
    exact ⟨ret_i2 (by rw [HV.out]; rfl), HB.out⟩
  | succ g =>
    have hlt : k < l.length := by omega
    have e3 : decide ((k : Int) < (l.length : Int)) = true := decide_eq_true (by omega)
    obtain ⟨x, hx⟩ : ∃ x, l[k]? = some x := ⟨_, List.getElem?_eq_getElem hlt⟩
    obtain ⟨b, o, hA, hbB, kk, kv⟩ := PL.at_ (HS.out.step hb) hx
    subst hA
    have j1 : (0 : Int) ≤ (k : Int) := by omega
    have j2 : (k : Int) < (l.length : Int) := by omega
    have HX := Lib.hid hx
    have KX := fun w => vKey_any x.1 w (HZ.out x (List.mem_of_getElem? hx))
    generalize hkx : keyR x.1 = bk at KX
    have HKX := Lib.hid hkx
    have HC := Lib.hid KX
    clear hkg hx hkx KX
    cases bk
    · have HV : Hid (propsF none l = 16) := Lib.hid (by rw [HR.out.unf HX.out, if_pos HKX.out])
      clear hb
      go_wp2_with (go_at_call 115; refine (HC.out _).mono ?_; rintro e w' ⟨rfl, rfl⟩)
      go_ret
      exact ⟨ret_i2 (by rw [HV.out]; rfl), HB.out⟩
    by_cases hv : 160 < x.2.size
    · have HV : Hid (propsF none l = 5) := Lib.hid (by rw [HR.out.unf HX.out, if_neg (by rw [HKX.out]; simp), if_pos hv])
      have q1 : decide ((160 : Int) < (x.2.size : Int)) = true := decide_eq_true (by omega)
      clear hv hb
      go_wp2_with (go_at_call 115; refine (HC.out _).mono ?_; rintro e w' ⟨rfl, rfl⟩)
      go_ret
      exact ⟨ret_i2 (by rw [HV.out]; rfl), HB.out⟩
    have q1 : decide ((160 : Int) < (x.2.size : Int)) = false := decide_eq_false (by omega)
    have HV5 := Lib.hid hv
    clear hv
    have hbd : Below wr.heap.size wr wr.drew := (Below.refl _ _).drew
    by_cases hk0 : k = 0
    · have hpk : prevK l k = none := by unfold prevK; rw [if_pos hk0]
      have HN := Lib.hid (HR.out.next HX.out HKX.out HV5.out (by rw [hpk]))
      have q2 : decide ((0 : Int) < (k : Int)) = false := decide_eq_false (by omega)
      have q2' : decide (0 < k) = false := decide_eq_false (by omega)
      clear hb hpk hk0
      go_wp2_with (go_at_call 115; refine (HC.out _).mono ?_; rintro e w' ⟨rfl, rfl⟩)
      go_quiet (fail)
      go_wp2
      go_roundg g
      case measure => omega
      case rel => exact ⟨k + 1, by have := HG.out; omega, nxt k (by have := H8.out; have := HG.out; omega), HN.out, stepB HB.out (below_drewN _ _)⟩
    · obtain ⟨p, hp⟩ : ∃ p, k = p + 1 := ⟨k - 1, by omega⟩
      have hpl : p < l.length := by omega
      obtain ⟨y, hy⟩ : ∃ y, l[p]? = some y := ⟨_, List.getElem?_eq_getElem hpl⟩
      obtain ⟨b', o', hA', _, kp, _⟩ := PL.at_ (HS.out.step hb) hy
      simp only [Option.some.injEq, Addr.mk.injEq, and_true] at hA'
      obtain ⟨rfl, rfl⟩ := hA'
      have hpk : prevK l k = some y.1 := by unfold prevK; rw [if_neg hk0, show k - 1 = p by omega, hy]; rfl
      have q2 : decide ((0 : Int) < (k : Int)) = true := decide_eq_true (by omega)
      have q2' : decide (0 < k) = true := decide_eq_true (by omega)
      have j3 : IntKind.i64.wrap ((k : Int) - 1) = (p : Int) := by rw [wrap_i64_id _ (by omega) (by have := H8.out; omega)]; omega
      have j4 : (0 : Int) ≤ (p : Int) := by omega
      have j5 : (p : Int) < (l.length : Int) := by omega
      have HPK := Lib.hid hpk
      clear hpk hy hp hk0 hb
      cases hlt2 : ltS y.1 x.1
      · have q3 : (Op.bytesLess x.1.toList y.1.toList || x.1.toList == y.1.toList) = true := by rw [le_data, hlt2]; rfl
        have HV : Hid (propsF none l = 16) := Lib.hid (by rw [HR.out.unf HX.out, if_neg (by rw [HKX.out]; simp), if_neg HV5.out, if_pos (by rw [HPK.out]; simp [hlt2])])
        go_wp2_with (go_at_call 115; refine (HC.out _).mono ?_; rintro e w' ⟨rfl, rfl⟩)
        go_quiet (fail)
        go_wp2
        go_ret
        exact ⟨ret_i2 (by rw [HV.out]; rfl), stepB HB.out (below_drewN _ _)⟩
      · have q3 : (Op.bytesLess x.1.toList y.1.toList || x.1.toList == y.1.toList) = false := by rw [le_data, hlt2]; rfl
        have HN := Lib.hid (HR.out.next HX.out HKX.out HV5.out (by rw [HPK.out]; simp [hlt2]))
        go_wp2_with (go_at_call 115; refine (HC.out _).mono ?_; rintro e w' ⟨rfl, rfl⟩)
        go_quiet (fail)
        go_wp2
        go_roundg g
        case measure => omega
        case rel => exact ⟨k + 1, by have := HG.out; omega, nxt k (by have := H8.out; have := HG.out; omega), HN.out, stepB HB.out (below_drewN _ _)⟩
end Go.Proofs.YtdkegoaflabjoaaGreatDoor
namespace Go.Proofs.YtdkegoaflabjoaaGreatDoor
open Go.RowKit

theorem validKey_any (s : ByteArray) (w : World) :
 Calls Tryz.prog 126 #[.string s] w fun e w' => e = .returned (.bool (keyR s)) ∧ Below w.heap.size w w' := by
 have hlen := size_dl s
 by_cases h0 : s.size = 0
 · have hemp := S1.empty_of s h0
   have hf : keyR s = false := keyR_size (.inl (by omega))
   rw [hf]
   clear hf hlen
   go_enter Tryz.func126, Tryz.ntmps126
   go_wp2
   go_ret
   exact ⟨rfl, Below.refl _ _⟩
 have hemp := S1.nonempty_of s (by omega)
 by_cases h16 : 16 < s.size
 · have hf : keyR s = false := keyR_size (.inr (by omega))
   rw [hf]
   have hd : decide ((16 : Int) < (s.size : Int)) = true := decide_eq_true (by omega)
   clear hf hlen
   go_enter Tryz.func126, Tryz.ntmps126
   go_wp2
   go_ret
   exact ⟨rfl, Below.refl _ _⟩
 have hd : decide ((16 : Int) < (s.size : Int)) = false := decide_eq_false (by omega)
 have HL := Lib.hid hlen
 clear hlen
 go_enter Tryz.func126, Tryz.ntmps126
 go_wp2
 go_loopg [4] s.size (fun g _ wx => ∃ i : Nat, i + g = s.size ∧ wx = w.iter s i ∧ KeyUpto (dl s) i)
 case atStart => exact ⟨0, by omega, rfl, fun _ _ h => absurd h (Nat.not_lt_zero _)⟩
 case round =>
  obtain ⟨i, hig, rfl, hno⟩ := hrel
  have HN := Lib.hid hno
  clear hno
  cases gk with
  | zero =>
    obtain rfl : i = s.size := by omega
    have hnx := fun ty => run_next_end (P := Tryz.prog) w s s.size ty (by omega)
    clear hig
    go_wp2
    go_ret
    exact ⟨retb (keyR_done HN.out (by omega) (by omega)).symm, (Below.refl _ _).alloc (Nat.le_refl _) _⟩
  | succ g =>
    have hi : i < s.size := by omega
    obtain ⟨x, hx⟩ : ∃ x : UInt8, s[i]'hi = x := ⟨_, rfl⟩
    have HX : Hid ((dl s)[i]? = some x) := Lib.hid (by
     have h1 : i < (dl s).length := by rw [← size_dl]; exact hi
     rw [List.getElem?_eq_getElem h1, ← hx]
     rfl)
    by_cases ha : x.toNat < 128
    · have hnx := fun ty => run_next_ascii (P := Tryz.prog) w s i ty hi (by rw [hx]; exact ha)
      rw [hx] at hnx
      clear hx
      go_wp2
      all_goals try simp only [beq_iff_eq, beq_eq_false_iff_ne, ne_eq] at *
      all_goals first
       | (go_ret
          exact ⟨retb (keyR_bad HX.out (by unfold keyC; rw [Bool.eq_false_iff]; simp; omega)).symm, (Below.refl _ _).alloc (Nat.le_refl _) _⟩)
       | (go_roundg g
          case measure => omega
          case rel => exact ⟨i + 1, by omega, rfl, HN.out.succ HX.out (by unfold keyC; simp; omega)⟩)
    · have hh := decode_high s i hi (by rw [hx]; omega)
      have hnx := fun ty => run_next_any (P := Tryz.prog) w s i ty hi
      obtain ⟨c, hc⟩ : ∃ c : Nat, (Utf8.decode s i).1 = c := ⟨_, rfl⟩
      obtain ⟨d, hd2⟩ : ∃ d : Nat, (Utf8.decode s i).2 = d := ⟨_, rfl⟩
      rw [hc] at hnx hh
      have hc128 := hh.1
      rw [hd2] at hnx
      have h122 : decide ((c : Int) ≤ 122) = false := decide_eq_false (by omega)
      have h57 : decide ((c : Int) ≤ 57) = false := decide_eq_false (by omega)
      have h97 : decide ((97 : Int) ≤ (c : Int)) = true := decide_eq_true (by omega)
      have h48 : decide ((48 : Int) ≤ (c : Int)) = true := decide_eq_true (by omega)
      have h45 : ((c : Int) == 45) = false := beq_eq_false_iff_ne.2 (by omega)
      have HK : Hid (keyC x = false) := Lib.hid (by unfold keyC; rw [Bool.eq_false_iff]; simp; omega)
      clear hh hc hd2 hx ha
      go_wp2
      all_goals
       go_ret
       exact ⟨retb (keyR_bad HX.out HK.out).symm, (Below.refl _ _).alloc (Nat.le_refl _) _⟩

/-- the error of a property for itself -/
def chkP (k v : ByteArray) : Nat := if keyR k = false then 16 else if 160 < v.size then 5 else 0
theorem checkProp_any (k v : ByteArray) (w : World) :
 Calls Tryz.prog 118 #[.string k, .string v] w fun e w' => e = .returned (.int .i64 (chkP k v)) ∧ Below w.heap.size w w' := by
 have HK := fun w => validKey_any k w
 unfold chkP
 generalize keyR k = b at HK ⊢
 have HC := Lib.hid HK
 clear HK
 cases b
 · go_enter Tryz.func118, Tryz.ntmps118
   go_wp2_with fail
   refine (HC.out _).mono ?_
   rintro e w' ⟨rfl, hb⟩
   go_wp2
   go_ret
   exact ⟨rfl, hb⟩
 by_cases hv : 160 < v.size
 · have q1 : decide ((160 : Int) < (v.size : Int)) = true := decide_eq_true (by omega)
   rw [if_neg (by simp), if_pos hv]
   clear hv
   go_enter Tryz.func118, Tryz.ntmps118
   go_wp2_with fail
   refine (HC.out _).mono ?_
   rintro e w' ⟨rfl, hb⟩
   go_wp2
   go_ret
   exact ⟨rfl, hb⟩
 · have q1 : decide ((160 : Int) < (v.size : Int)) = false := decide_eq_false (by omega)
   rw [if_neg (by simp), if_neg hv]
   clear hv
   go_enter Tryz.func118, Tryz.ntmps118
   go_wp2_with fail
   refine (HC.out _).mono ?_
   rintro e w' ⟨rfl, hb⟩
   go_wp2
   go_ret
   exact ⟨rfl, hb⟩

theorem getR_nil (key : ByteArray) : getR [] key = (⟨#[]⟩, false) := rfl
theorem getR_cons (x : PR) (r : List PR) (key : ByteArray) : getR (x :: r) key = if x.1 = key then (x.2, true) else getR r key := rfl
def GetRel (l : List PR) (key : ByteArray) (k : Nat) : Prop := getR l key = getR (l.drop k) key
theorem GetRel.start (l : List PR) (key : ByteArray) : GetRel l key 0 := rfl
theorem GetRel.next {l : List PR} {key : ByteArray} {k : Nat} {x : PR} (h : GetRel l key k) (hx : l[k]? = some x) (he : x.1 ≠ key) : GetRel l key (k + 1) := by
 unfold GetRel at h ⊢
 rw [h, drop_at2 hx, getR_cons, if_neg he]
theorem GetRel.done {l : List PR} {key : ByteArray} (h : GetRel l key l.length) : getR l key = (⟨#[]⟩, false) := by
 unfold GetRel at h
 rw [h, List.drop_length, getR_nil]
theorem streq_yes {x y : ByteArray} (h : x = y) : (x.toList == y.toList) = true := str_eq.2 h
theorem streq_no {x y : ByteArray} (h : x ≠ y) : (x.toList == y.toList) = false := by
 cases h' : (x.toList == y.toList)
 · rfl
 · exact absurd (str_eq.1 h') h

end Go.Proofs.YtdkegoaflabjoaaGreatDoor
namespace Go.Proofs.YtdkegoaflabjoaaGreatDoor
open Go.RowKit

theorem PropsRel.err {l : List PR} {k : Nat} {x : PR} (h : PropsRel l k) (hx : l[k]? = some x) (hc : chkP x.1 x.2 ≠ 0) : propsF none l = chkP x.1 x.2 := by
 rw [h.unf hx]
 unfold chkP at hc ⊢
 split
 · rfl
 · split
   · rfl
   · next h1 h2 => rw [if_neg h1, if_neg h2] at hc; exact absurd rfl hc
theorem chkP_ok {k v : ByteArray} (h : chkP k v = 0) : keyR k = true ∧ ¬ 160 < v.size := by
 unfold chkP at h
 split at h
 · cases h
 · next h1 =>
   split at h
   · cases h
   · next h2 => exact ⟨by simpa using h1, h2⟩
/-- a block of its own for one property -/
theorem box_prop (wr : World) (x : PR) (w1 : World) (hb : Below (wr.alloc (.cells #[.string x.1, .string x.2] 114)).heap.size (wr.alloc (.cells #[.string x.1, .string x.2] 114)) w1) :
 w1.cell? ⟨wr.heap.size, 0, none⟩ = some (.string x.1) ∧ w1.cell? ⟨wr.heap.size, 1, none⟩ = some (.string x.2) := by
 refine ⟨(hb.cell (p := ⟨wr.heap.size, 0, none⟩) (by simp)).trans ?_, (hb.cell (p := ⟨wr.heap.size, 1, none⟩) (by simp)).trans ?_⟩
 · rw [World.cell?_alloc_at _ _ _ _ (by rfl)]; rfl
 · rw [World.cell?_alloc_at _ _ _ _ (by rfl)]; rfl

theorem props_any (A : Option Addr) (c : Nat) (l : List PR) (w : World) (hsl : PL w w.heap.size A l) :
 Calls Tryz.prog 103 #[.slice A l.length c] w fun e w' => e = .returned (.int .i64 (propsR l)) ∧ Below w.heap.size w w' := by
 unfold propsR
 by_cases h8 : 8 < l.length
 · rw [if_pos h8]
   have hd : decide ((8 : Int) < (l.length : Int)) = true := decide_eq_true (by omega)
   clear hsl
   go_enter Tryz.func103, Tryz.ntmps103
   go_wp2
   go_ret
   exact ⟨rfl, Below.refl _ _⟩
 rw [if_neg h8]
 have hd : decide ((8 : Int) < (l.length : Int)) = false := decide_eq_false (by omega)
 have HS := Lib.hid hsl
 have H8 := Lib.hid h8
 clear hsl h8
 go_enter Tryz.func103, Tryz.ntmps103
 go_wp2
 go_loopg [11] l.length (fun g v wr => ∃ k : Nat, k + g = l.length ∧ v = .int .i64 k ∧ PropsRel l k ∧ Below w.heap.size w wr)
 case atStart => exact ⟨0, by omega, rfl, PropsRel.start _, Below.refl _ _⟩
 case round =>
  obtain ⟨k, hkg, rfl, hrel, hb⟩ := hrel
  have HR := Lib.hid hrel
  have HB := Lib.hid hb
  have HG := Lib.hid hkg
  clear hrel
  cases gk with
  | zero =>
    obtain rfl : k = l.length := by omega
    have HV : Hid (propsF none l = 0) := Lib.hid (PropsRel.done HR.out)
    clear hkg hb
    go_wp2
    go_ret
    exact ⟨ret_i2 (by rw [HV.out]; rfl), HB.out⟩
  | succ g =>
    have hlt : k < l.length := by omega
    have e3 : decide ((k : Int) < (l.length : Int)) = true := decide_eq_true (by omega)
    obtain ⟨x, hx⟩ : ∃ x, l[k]? = some x := ⟨_, List.getElem?_eq_getElem hlt⟩
    obtain ⟨b, o, hA, hbB, kk, kv⟩ := PL.at_ (HS.out.step hb) hx
    subst hA
    have j1 : (0 : Int) ≤ (k : Int) := by omega
    have j2 : (k : Int) < (l.length : Int) := by omega
    have HX := Lib.hid hx
    have KX := fun w => checkProp_any x.1 x.2 w
    generalize hkx : chkP x.1 x.2 = ck at KX
    have HKX := Lib.hid hkx
    have HC := Lib.hid KX
    clear hkg hx hkx KX hb
    go_wp2_with fail
    refine (HC.out _).mono ?_
    rintro e w1 ⟨rfl, hb1⟩
    have HB1 := Lib.hid (stepB (stepB HB.out ((Below.refl _ _).alloc (Nat.le_refl _) (.cells #[.string x.1, .string x.2] 114))) hb1)
    obtain ⟨p0, p1⟩ := box_prop wr x w1 hb1
    clear hb1 kk kv
    by_cases hck : ck = 0
    · subst hck
      obtain ⟨hk1, hv1⟩ := chkP_ok HKX.out
      have HK1 := Lib.hid hk1
      have HV1 := Lib.hid hv1
      clear hk1 hv1
      by_cases hk0 : k = 0
      · have hpk : prevK l k = none := by unfold prevK; rw [if_pos hk0]
        have HN := Lib.hid (HR.out.next HX.out HK1.out HV1.out (by rw [hpk]))
        have q2 : decide ((0 : Int) < (k : Int)) = false := decide_eq_false (by omega)
        have q2' : decide (0 < k) = false := decide_eq_false (by omega)
        clear hpk hk0
        go_wp2
        go_quiet (fail)
        go_wp2
        go_roundg g
        case measure => omega
        case rel => exact ⟨k + 1, by have := HG.out; omega, nxt k (by have := H8.out; have := HG.out; omega), HN.out, stepB HB1.out (below_drewN _ _)⟩
      · obtain ⟨p, hp⟩ : ∃ p, k = p + 1 := ⟨k - 1, by omega⟩
        have hpl : p < l.length := by omega
        obtain ⟨y, hy⟩ : ∃ y, l[p]? = some y := ⟨_, List.getElem?_eq_getElem hpl⟩
        obtain ⟨b', o', hA', _, kp, _⟩ := PL.at_ (HS.out.step HB1.out) hy
        simp only [Option.some.injEq, Addr.mk.injEq, and_true] at hA'
        obtain ⟨rfl, rfl⟩ := hA'
        have hpk : prevK l k = some y.1 := by unfold prevK; rw [if_neg hk0, show k - 1 = p by omega, hy]; rfl
        have q2 : decide ((0 : Int) < (k : Int)) = true := decide_eq_true (by omega)
        have q2' : decide (0 < k) = true := decide_eq_true (by omega)
        have j3 : IntKind.i64.wrap ((k : Int) - 1) = (p : Int) := by rw [wrap_i64_id _ (by omega) (by have := H8.out; omega)]; omega
        have j4 : (0 : Int) ≤ (p : Int) := by omega
        have j5 : (p : Int) < (l.length : Int) := by omega
        have HPK := Lib.hid hpk
        clear hpk hy hp hk0
        cases hlt2 : ltS y.1 x.1
        · have q3 : (Op.bytesLess x.1.toList y.1.toList || x.1.toList == y.1.toList) = true := by rw [le_data, hlt2]; rfl
          have HV : Hid (propsF none l = 16) := Lib.hid (by rw [HR.out.unf HX.out, if_neg (by rw [HK1.out]; simp), if_neg HV1.out, if_pos (by rw [HPK.out]; simp [hlt2])])
          go_wp2
          go_quiet (fail)
          go_wp2
          go_ret
          exact ⟨ret_i2 (by rw [HV.out]; rfl), stepB HB1.out (below_drewN _ _)⟩
        · have q3 : (Op.bytesLess x.1.toList y.1.toList || x.1.toList == y.1.toList) = false := by rw [le_data, hlt2]; rfl
          have HN := Lib.hid (HR.out.next HX.out HK1.out HV1.out (by rw [HPK.out]; simp [hlt2]))
          go_wp2
          go_quiet (fail)
          go_wp2
          go_roundg g
          case measure => omega
          case rel => exact ⟨k + 1, by have := HG.out; omega, nxt k (by have := H8.out; have := HG.out; omega), HN.out, stepB HB1.out (below_drewN _ _)⟩
    · have HV := Lib.hid (HR.out.err HX.out (by rw [HKX.out]; exact hck))
      have q0 : ((ck : Int) != 0) = true := by simp; omega
      clear hck
      go_wp2
      go_ret
      exact ⟨ret_i2 (by rw [HV.out, HKX.out]), HB1.out⟩
end Go.Proofs.YtdkegoaflabjoaaGreatDoor
