/-
  What validKey, checkProp, Props and Get of message answer. Conditions: the lists read as data; lengths fit an int.
-/
import Derived.Test.YtjhojpghllnoiaaDoorPropA
import Derived.Test.YtjhojpghllnoiaaDoorNames
import Derived.Laws.RangeAny
import Derived.Laws.RangeString
namespace Go.Proofs.YtjhojpghllnoiaaDoor
open Go.RowKit

set_option maxHeartbeats 1000000 in
theorem validKey_any (s : ByteArray) (w : World) :
    Calls Tryd.prog 77 #[.string s] w fun e w' => e = .returned (.bool (keyR s)) ∧ Below w.heap.size w w' := by
  have hlen := size_dl s
  by_cases h0 : s.size = 0
  · have hemp := S1.empty_of s h0
    have hf : keyR s = false := keyR_size (.inl (by omega))
    rw [hf]
    clear hf hlen
    go_enter Tryd.func77, Tryd.ntmps77
    go_wp2
    go_ret
    exact ⟨rfl, Below.refl _ _⟩
  have hemp := S1.nonempty_of s (by omega)
  by_cases h16 : 16 < s.size
  · have hf : keyR s = false := keyR_size (.inr (by omega))
    rw [hf]
    have hd : decide ((16 : Int) < (s.size : Int)) = true := decide_eq_true (by omega)
    clear hf hlen
    go_enter Tryd.func77, Tryd.ntmps77
    go_wp2
    go_ret
    exact ⟨rfl, Below.refl _ _⟩
  have hd : decide ((16 : Int) < (s.size : Int)) = false := decide_eq_false (by omega)
  have HL := Lib.hid hlen
  clear hlen
  go_enter Tryd.func77, Tryd.ntmps77
  go_wp2
  go_loopg [4] s.size (fun g _ wx => ∃ i : Nat, i + g = s.size ∧ wx = w.iter s i ∧ KeyUpto (dl s) i)
  case atStart => exact ⟨0, by omega, rfl, fun _ _ h => absurd h (Nat.not_lt_zero _)⟩
  case round =>
    obtain ⟨i, hig, rfl, hno⟩ := hrel
    have HN := Lib.hid hno
    clear hno
    cases gk with
    | zero =>
      obtain rfl : i = s.size := by omega
      have hnx := fun ty => run_next_end (P := Tryd.prog) w s s.size ty (by omega)
      clear hig
      go_wp2
      go_ret
      exact ⟨retb (keyR_done HN.out (by omega) (by omega)).symm, (Below.refl _ _).alloc (Nat.le_refl _) _⟩
    | succ g =>
      have hi : i < s.size := by omega
      obtain ⟨x, hx⟩ : ∃ x : UInt8, s[i]'hi = x := ⟨_, rfl⟩
      have HX : Hid ((dl s)[i]? = some x) := Lib.hid (by
        have h1 : i < (dl s).length := by rw [← size_dl]; exact hi
        rw [List.getElem?_eq_getElem h1, ← hx]
        rfl)
      by_cases ha : x.toNat < 128
      · have hnx := fun ty => run_next_ascii (P := Tryd.prog) w s i ty hi (by rw [hx]; exact ha)
        rw [hx] at hnx
        clear hx
        go_wp2
        all_goals try simp only [beq_iff_eq, beq_eq_false_iff_ne, ne_eq] at *
        all_goals first
          | (go_ret
             exact ⟨retb (keyR_bad HX.out (by unfold keyC; rw [Bool.eq_false_iff]; simp; omega)).symm, (Below.refl _ _).alloc (Nat.le_refl _) _⟩)
          | (go_roundg g
             case measure => omega
             case rel => exact ⟨i + 1, by omega, rfl, HN.out.succ HX.out (by unfold keyC; simp; omega)⟩)
      · have hh := decode_high s i hi (by rw [hx]; omega)
        have hnx := fun ty => run_next_any (P := Tryd.prog) w s i ty hi
        obtain ⟨c, hc⟩ : ∃ c : Nat, (Utf8.decode s i).1 = c := ⟨_, rfl⟩
        obtain ⟨d, hd2⟩ : ∃ d : Nat, (Utf8.decode s i).2 = d := ⟨_, rfl⟩
        rw [hc] at hnx hh
        have hc128 := hh.1
        rw [hd2] at hnx
        have h122 : decide ((c : Int) ≤ 122) = false := decide_eq_false (by omega)
        have h57 : decide ((c : Int) ≤ 57) = false := decide_eq_false (by omega)
        have h97 : decide ((97 : Int) ≤ (c : Int)) = true := decide_eq_true (by omega)
        have h48 : decide ((48 : Int) ≤ (c : Int)) = true := decide_eq_true (by omega)
        have h45 : ((c : Int) == 45) = false := beq_eq_false_iff_ne.2 (by omega)
        have HK : Hid (keyC x = false) := Lib.hid (by unfold keyC; rw [Bool.eq_false_iff]; simp; omega)
        clear hh hc hd2 hx ha
        go_wp2
        all_goals
          go_ret
          exact ⟨retb (keyR_bad HX.out HK.out).symm, (Below.refl _ _).alloc (Nat.le_refl _) _⟩

/-- the error of a property for itself -/
def chkP (k v : ByteArray) : Nat := if keyR k = false then 16 else if 160 < v.size then 5 else 0
set_option maxHeartbeats 1000000 in
theorem checkProp_any (k v : ByteArray) (w : World) :
    Calls Tryd.prog 67 #[.string k, .string v] w fun e w' => e = .returned (.int .i64 (chkP k v)) ∧ Below w.heap.size w w' := by
  have HK := fun w => validKey_any k w
  unfold chkP
  generalize keyR k = b at HK ⊢
  have HC := Lib.hid HK
  clear HK
  cases b
  · go_enter Tryd.func67, Tryd.ntmps67
    go_wp2_with fail
    refine (HC.out _).mono ?_
    rintro e w' ⟨rfl, hb⟩
    go_wp2
    go_ret
    exact ⟨rfl, hb⟩
  by_cases hv : 160 < v.size
  · have q1 : decide ((160 : Int) < (v.size : Int)) = true := decide_eq_true (by omega)
    rw [if_neg (by simp), if_pos hv]
    clear hv
    go_enter Tryd.func67, Tryd.ntmps67
    go_wp2_with fail
    refine (HC.out _).mono ?_
    rintro e w' ⟨rfl, hb⟩
    go_wp2
    go_ret
    exact ⟨rfl, hb⟩
  · have q1 : decide ((160 : Int) < (v.size : Int)) = false := decide_eq_false (by omega)
    rw [if_neg (by simp), if_neg hv]
    clear hv
    go_enter Tryd.func67, Tryd.ntmps67
    go_wp2_with fail
    refine (HC.out _).mono ?_
    rintro e w' ⟨rfl, hb⟩
    go_wp2
    go_ret
    exact ⟨rfl, hb⟩

/-! ### Get -/
theorem getR_nil (key : ByteArray) : getR [] key = (⟨#[]⟩, false) := rfl
theorem getR_cons (x : PR) (r : List PR) (key : ByteArray) : getR (x :: r) key = if x.1 = key then (x.2, true) else getR r key := rfl
def GetRel (l : List PR) (key : ByteArray) (k : Nat) : Prop := getR l key = getR (l.drop k) key
def retG (r : ByteArray × Bool) : Ending := .returned (.tuple #[.string r.1, .bool r.2])
theorem retG_eq {a a' : ByteArray} {b b' : Bool} (h1 : a = a') (h2 : b = b') : Ending.returned (.tuple #[.string a, .bool b]) = retG (a', b') := by subst h1; subst h2; rfl
theorem GetRel.start (l : List PR) (key : ByteArray) : GetRel l key 0 := rfl
theorem GetRel.yes {l : List PR} {key : ByteArray} {k : Nat} {x : PR} (h : GetRel l key k) (hx : l[k]? = some x) (he : x.1 = key) : getR l key = (x.2, true) := by
  unfold GetRel at h
  rw [h, drop_at2 hx, getR_cons, if_pos he]
theorem GetRel.next {l : List PR} {key : ByteArray} {k : Nat} {x : PR} (h : GetRel l key k) (hx : l[k]? = some x) (he : x.1 ≠ key) : GetRel l key (k + 1) := by
  unfold GetRel at h ⊢
  rw [h, drop_at2 hx, getR_cons, if_neg he]
theorem GetRel.done {l : List PR} {key : ByteArray} (h : GetRel l key l.length) : getR l key = (⟨#[]⟩, false) := by
  unfold GetRel at h
  rw [h, List.drop_length, getR_nil]
theorem streq_yes {x y : ByteArray} (h : x = y) : (x.toList == y.toList) = true := str_eq.2 h
theorem streq_no {x y : ByteArray} (h : x ≠ y) : (x.toList == y.toList) = false := by
  cases h' : (x.toList == y.toList)
  · rfl
  · exact absurd (str_eq.1 h') h

end Go.Proofs.YtjhojpghllnoiaaDoor
