/-
  What validKey, checkProp, Props and Get of message answer. Conditions: the lists read as data; lengths fit an int.
-/
import Derived.Test.YthpplhhlhheopabGreatDoorPropA
import Derived.Test.YthpplhhlhheopabGreatDoorNames
import Derived.Laws.RangeAny
import Derived.Laws.RangeString
namespace Go.Proofs.YthpplhhlhheopabGreatDoor
open Go.RowKit

set_option maxHeartbeats 1000000 in
theorem validKey_any (s : ByteArray) (w : World) :
    Calls Tryz.prog 63 #[.string s] w fun e w' => e = .returned (.bool (keyR s)) ∧ Below w.heap.size w w' := by
  have hlen := size_dl s
  by_cases h0 : s.size = 0
  · have hemp := S1.empty_of s h0
    have hf : keyR s = false := keyR_size (.inl (by omega))
    rw [hf]
    clear hf hlen
    go_enter Tryz.func63, Tryz.ntmps63
    go_wp2
    go_ret
    exact ⟨rfl, Below.refl _ _⟩
  have hemp := S1.nonempty_of s (by omega)
  by_cases h16 : 16 < s.size
  · have hf : keyR s = false := keyR_size (.inr (by omega))
    rw [hf]
    have hd : decide ((16 : Int) < (s.size : Int)) = true := decide_eq_true (by omega)
    clear hf hlen
    go_enter Tryz.func63, Tryz.ntmps63
    go_wp2
    go_ret
    exact ⟨rfl, Below.refl _ _⟩
  have hd : decide ((16 : Int) < (s.size : Int)) = false := decide_eq_false (by omega)
  have HL := Lib.hid hlen
  clear hlen
  go_enter Tryz.func63, Tryz.ntmps63
  go_wp2
  go_loopg [4] s.size (fun g _ wx => ∃ i : Nat, i + g = s.size ∧ wx = w.iter s i ∧ KeyUpto (dl s) i)
  case atStart => exact ⟨0, by omega, rfl, fun _ _ h => absurd h (Nat.not_lt_zero _)⟩
  case round =>
    obtain ⟨i, hig, rfl, hno⟩ := hrel
    have HN := Lib.hid hno
    clear hno
    cases gk with
    | zero =>
      obtain rfl : i = s.size := by omega
      have hnx := fun ty => run_next_end (P := Tryz.prog) w s s.size ty (by omega)
      clear hig
      go_wp2
      go_ret
      exact ⟨retb (keyR_done HN.out (by omega) (by omega)).symm, (Below.refl _ _).alloc (Nat.le_refl _) _⟩
    | succ g =>
      have hi : i < s.size := by omega
      obtain ⟨x, hx⟩ : ∃ x : UInt8, s[i]'hi = x := ⟨_, rfl⟩
      have HX : Hid ((dl s)[i]? = some x) := Lib.hid (by
        have h1 : i < (dl s).length := by rw [← size_dl]; exact hi
        rw [List.getElem?_eq_getElem h1, ← hx]
        rfl)
      by_cases ha : x.toNat < 128
      · have hnx := fun ty => run_next_ascii (P := Tryz.prog) w s i ty hi (by rw [hx]; exact ha)
        rw [hx] at hnx
        clear hx
        go_wp2
        all_goals try simp only [beq_iff_eq, beq_eq_false_iff_ne, ne_eq] at *
        all_goals first
          | (go_ret
             exact ⟨retb (keyR_bad HX.out (by unfold keyC; rw [Bool.eq_false_iff]; simp; omega)).symm, (Below.refl _ _).alloc (Nat.le_refl _) _⟩)
          | (go_roundg g
             case measure => omega
             case rel => exact ⟨i + 1, by omega, rfl, HN.out.succ HX.out (by unfold keyC; simp; omega)⟩)
      · have hh := decode_high s i hi (by rw [hx]; omega)
        have hnx := fun ty => run_next_any (P := Tryz.prog) w s i ty hi
        obtain ⟨c, hc⟩ : ∃ c : Nat, (Utf8.decode s i).1 = c := ⟨_, rfl⟩
        obtain ⟨d, hd2⟩ : ∃ d : Nat, (Utf8.decode s i).2 = d := ⟨_, rfl⟩
        rw [hc] at hnx hh
        have hc128 := hh.1
        rw [hd2] at hnx
        have h122 : decide ((c : Int) ≤ 122) = false := decide_eq_false (by omega)
        have h57 : decide ((c : Int) ≤ 57) = false := decide_eq_false (by omega)
        have h97 : decide ((97 : Int) ≤ (c : Int)) = true := decide_eq_true (by omega)
        have h48 : decide ((48 : Int) ≤ (c : Int)) = true := decide_eq_true (by omega)
        have h45 : ((c : Int) == 45) = false := beq_eq_false_iff_ne.2 (by omega)
        have HK : Hid (keyC x = false) := Lib.hid (by unfold keyC; rw [Bool.eq_false_iff]; simp; omega)
        clear hh hc hd2 hx ha
        go_wp2
        all_goals
          go_ret
          exact ⟨retb (keyR_bad HX.out HK.out).symm, (Below.refl _ _).alloc (Nat.le_refl _) _⟩

/-- the error of a property for itself -/
def chkP (k v : ByteArray) : Nat := if keyR k = false then 16 else if 160 < v.size then 5 else 0
set_option maxHeartbeats 1000000 in
theorem checkProp_any (k v : ByteArray) (w : World) :
    Calls Tryz.prog 44 #[.string k, .string v] w fun e w' => e = .returned (.int .i64 (chkP k v)) ∧ Below w.heap.size w w' := by
  have HK := fun w => validKey_any k w
  unfold chkP
  generalize keyR k = b at HK ⊢
  have HC := Lib.hid HK
  clear HK
  cases b
  · go_enter Tryz.func44, Tryz.ntmps44
    go_wp2_with fail
    refine (HC.out _).mono ?_
    rintro e w' ⟨rfl, hb⟩
    go_wp2
    go_ret
    exact ⟨rfl, hb⟩
  by_cases hv : 160 < v.size
  · have q1 : decide ((160 : Int) < (v.size : Int)) = true := decide_eq_true (by omega)
    rw [if_neg (by simp), if_pos hv]
    clear hv
    go_enter Tryz.func44, Tryz.ntmps44
    go_wp2_with fail
    refine (HC.out _).mono ?_
    rintro e w' ⟨rfl, hb⟩
    go_wp2
    go_ret
    exact ⟨rfl, hb⟩
  · have q1 : decide ((160 : Int) < (v.size : Int)) = false := decide_eq_false (by omega)
    rw [if_neg (by simp), if_neg hv]
    clear hv
    go_enter Tryz.func44, Tryz.ntmps44
    go_wp2_with fail
    refine (HC.out _).mono ?_
    rintro e w' ⟨rfl, hb⟩
    go_wp2
    go_ret
    exact ⟨rfl, hb⟩

/-! ### Get -/
theorem getR_nil (key : ByteArray) : getR [] key = (⟨#[]⟩, false) := rfl
theorem getR_cons (x : PR) (r : List PR) (key : ByteArray) : getR (x :: r) key = if x.1 = key then (x.2, true) else getR r key := rfl
def GetRel (l : List PR) (key : ByteArray) (k : Nat) : Prop := getR l key = getR (l.drop k) key
def retG (r : ByteArray × Bool) : Ending := .returned (.tuple #[.string r.1, .bool r.2])
theorem retG_eq {a a' : ByteArray} {b b' : Bool} (h1 : a = a') (h2 : b = b') : Ending.returned (.tuple #[.string a, .bool b]) = retG (a', b') := by subst h1; subst h2; rfl
theorem GetRel.start (l : List PR) (key : ByteArray) : GetRel l key 0 := rfl
theorem GetRel.yes {l : List PR} {key : ByteArray} {k : Nat} {x : PR} (h : GetRel l key k) (hx : l[k]? = some x) (he : x.1 = key) : getR l key = (x.2, true) := by
  unfold GetRel at h
  rw [h, drop_at2 hx, getR_cons, if_pos he]
theorem GetRel.next {l : List PR} {key : ByteArray} {k : Nat} {x : PR} (h : GetRel l key k) (hx : l[k]? = some x) (he : x.1 ≠ key) : GetRel l key (k + 1) := by
  unfold GetRel at h ⊢
  rw [h, drop_at2 hx, getR_cons, if_neg he]
theorem GetRel.done {l : List PR} {key : ByteArray} (h : GetRel l key l.length) : getR l key = (⟨#[]⟩, false) := by
  unfold GetRel at h
  rw [h, List.drop_length, getR_nil]
theorem streq_yes {x y : ByteArray} (h : x = y) : (x.toList == y.toList) = true := str_eq.2 h
theorem streq_no {x y : ByteArray} (h : x ≠ y) : (x.toList == y.toList) = false := by
  cases h' : (x.toList == y.toList)
  · rfl
  · exact absurd (str_eq.1 h') h

set_option maxHeartbeats 2000000 in
theorem get_any (A : Option Addr) (c : Nat) (l : List PR) (key : ByteArray) (w : World) (hsl : PL w w.heap.size A l) (hn : l.length ≤ 9223372036854775806) :
    Calls Tryz.prog 20 #[.slice A l.length c, .string key] w fun e w' => e = retG (getR l key) ∧ Below w.heap.size w w' := by
  have HS := Lib.hid hsl
  have HM := Lib.hid hn
  clear hsl
  go_enter Tryz.func20, Tryz.ntmps20
  go_wp2
  go_loopg [10] l.length (fun g v wr => ∃ k : Nat, k + g = l.length ∧ v = .int .i64 k ∧ GetRel l key k ∧ Below w.heap.size w wr)
  case atStart => exact ⟨0, by omega, rfl, GetRel.start _ _, Below.refl _ _⟩
  case round =>
    obtain ⟨k, hkg, rfl, hrel, hb⟩ := hrel
    have HR := Lib.hid hrel
    have HB := Lib.hid hb
    have HG := Lib.hid hkg
    clear hrel
    cases gk with
    | zero =>
      obtain rfl : k = l.length := by omega
      have HV := Lib.hid (GetRel.done HR.out)
      clear hkg hb
      go_wp2
      go_ret2
      exact ⟨by rw [HV.out]; rfl, HB.out⟩
    | succ g =>
      have hlt : k < l.length := by omega
      have e3 : decide ((k : Int) < (l.length : Int)) = true := decide_eq_true (by omega)
      obtain ⟨x, hx⟩ : ∃ x, l[k]? = some x := ⟨_, List.getElem?_eq_getElem hlt⟩
      obtain ⟨b, o, hA, hbB, kk, kv⟩ := PL.at_ (HS.out.step hb) hx
      subst hA
      have j1 : (0 : Int) ≤ (k : Int) := by omega
      have j2 : (k : Int) < (l.length : Int) := by omega
      have HX := Lib.hid hx
      by_cases he : x.1 = key
      · have HV := Lib.hid (HR.out.yes HX.out he)
        have q1 := streq_yes he
        clear hkg hb hx he
        go_wp2
        go_ret2
        exact ⟨by rw [HV.out]; rfl, stepB HB.out ((Below.refl _ _).alloc (Nat.le_refl _) _)⟩
      · have HV := Lib.hid (HR.out.next HX.out he)
        have q1 := streq_no he
        clear hkg hb hx he
        go_wp2
        go_roundg g
        case measure => omega
        case rel => exact ⟨k + 1, by have := HG.out; omega, by go_num, HV.out, stepB HB.out ((Below.refl _ _).alloc (Nat.le_refl _) _)⟩

end Go.Proofs.YthpplhhlhheopabGreatDoor
