/-
  What compareKey of message and BinarySearchFunc of slices with it answer: the place of the first key that is not less, and whether it is the key. Conditions: the list reads as data, its keys ascend; lengths fit an int.
-/
import Derived.Test.YthpplhhlhheopabDoorKeyP
namespace Go.Proofs.YthpplhhlhheopabDoor
open Go.RowKit

/-- the order of two texts as a number -/
def cmpS (a b : ByteArray) : Int := if ltS a b = true then -1 else if a = b then 0 else 1
theorem cmpB : ∀ x y : List UInt8, Lib.compareBytes x y = if Op.bytesLess x y = true then -1 else if x = y then 0 else 1 := by
  intro x
  induction x with
  | nil => intro y; cases y <;> simp [Lib.compareBytes, Op.bytesLess]
  | cons a x ih =>
    intro y
    cases y with
    | nil => simp [Lib.compareBytes, Op.bytesLess]
    | cons b y =>
      rw [Lib.compareBytes, ih y]
      by_cases h1 : a < b
      · rw [if_pos h1, if_pos (by simp [Op.bytesLess, h1])]
      · rw [if_neg h1]
        by_cases h2 : b < a
        · rw [if_pos h2]
          have hne : a ≠ b := fun e => by subst e; exact absurd h2 (by simp)
          rw [if_neg (by simp [Op.bytesLess, h1, hne]), if_neg (by simp [hne])]
        · rw [if_neg h2]
          have hab : a = b := by
            rw [UInt8.lt_iff_toNat_lt] at h1 h2
            exact UInt8.toNat_inj.1 (by omega)
          subst hab
          simp [Op.bytesLess]
theorem cmpS_eq (a b : ByteArray) : Lib.compareBytes a.data.toList b.data.toList = cmpS a b := by
  rw [cmpB]
  unfold cmpS ltS
  have : (a.data.toList = b.data.toList) ↔ a = b := ⟨fun h => dl_inj h, fun h => by rw [h]⟩
  simp only [this]
  rfl
set_option maxHeartbeats 1000000 in
theorem compareKey_any (x : PR) (key : ByteArray) (w : World) :
    Calls Tryd.prog 72 #[.agg #[.string x.1, .string x.2], .string key] w fun e w' => e = .returned (.int .i64 (cmpS x.1 key)) ∧ Below w.heap.size w w' := by
  have HC := Lib.hid (fun w => Tryd.strings_Compare x.1 key w)
  have HE := Lib.hid (cmpS_eq x.1 key)
  rw [HE.out] at HC
  go_enter Tryd.func72, Tryd.ntmps72
  go_wp2_with fail
  refine (HC.out _).mono ?_
  rintro e w' ⟨rfl, hw⟩
  subst hw
  go_wp2
  go_ret
  exact ⟨rfl, (Below.refl _ _).alloc (Nat.le_refl _) _⟩

/-- the keys ascend -/
def Asc (l : List PR) : Prop := ∀ (i j : Nat) (x y : PR), l[i]? = some x → l[j]? = some y → i < j → ltS x.1 y.1 = true
/-- the place of a key -/
def posK (l : List PR) (key : ByteArray) : Nat := (l.filter fun x => ltS x.1 key).length
def foundK (l : List PR) (key : ByteArray) : Bool := match l[posK l key]? with
  | some x => decide (x.1 = key)
  | none => false
/-- everything below i is less, everything from j on is not -/
def BsRel (l : List PR) (key : ByteArray) (i j : Nat) : Prop := i ≤ j ∧ j ≤ l.length ∧ (∀ k x, k < i → l[k]? = some x → ltS x.1 key = true) ∧ ∀ k x, j ≤ k → l[k]? = some x → ltS x.1 key = false
theorem BsRel.start (l : List PR) (key : ByteArray) : BsRel l key 0 l.length := ⟨Nat.zero_le _, Nat.le_refl _, fun _ _ h => absurd h (Nat.not_lt_zero _), fun k x h hx => by
  have := (List.getElem?_eq_some_iff.1 hx).1; omega⟩
theorem BsRel.less {l : List PR} {key : ByteArray} {i j h : Nat} {x : PR} (hr : BsRel l key i j) (ha : Asc l) (hih : i ≤ h) (hhj : h < j) (hx : l[h]? = some x) (hl : ltS x.1 key = true) : BsRel l key (h + 1) j :=
  ⟨by omega, hr.2.1, fun k y hk hy => by
    by_cases e : k = h
    · subst e
      rw [hx] at hy
      rw [← Option.some.inj hy]; exact hl
    · exact ltS_trans (ha k h y x hy hx (by omega)) hl, hr.2.2.2⟩
theorem BsRel.notless {l : List PR} {key : ByteArray} {i j h : Nat} {x : PR} (hr : BsRel l key i j) (ha : Asc l) (hih : i ≤ h) (hhj : h < j) (hx : l[h]? = some x) (hl : ltS x.1 key = false) : BsRel l key i h :=
  ⟨hih, by have := hr.2.1; omega, hr.2.2.1, fun k y hk hy => by
    by_cases e : k = h
    · subst e
      rw [hx] at hy
      rw [← Option.some.inj hy]; exact hl
    · cases h' : ltS y.1 key
      · rfl
      · have := ltS_trans (ha h k x y hx hy (by omega)) h'
        rw [hl] at this; exact this.symm⟩
theorem filter_pre {α : Type} (p : α → Bool) : ∀ (l : List α) (i : Nat), i ≤ l.length → (∀ k x, k < i → l[k]? = some x → p x = true) → (∀ k x, i ≤ k → l[k]? = some x → p x = false) → l.filter p = l.take i := by
  intro l
  induction l with
  | nil => intro i _ _ _; simp
  | cons a l ih =>
    intro i hi h1 h2
    cases i with
    | zero =>
      rw [List.take_zero, List.filter_eq_nil_iff]
      intro x hx
      obtain ⟨k, hk⟩ := List.mem_iff_getElem?.1 hx
      rw [h2 k x (Nat.zero_le _) hk]; simp
    | succ i =>
      have ha : p a = true := h1 0 a (by omega) rfl
      rw [List.filter_cons_of_pos ha, List.take_succ_cons, ih i (by simpa using hi) (fun k x hk hx => h1 (k + 1) x (by omega) hx) (fun k x hk hx => h2 (k + 1) x (by omega) hx)]
theorem BsRel.pos {l : List PR} {key : ByteArray} {i : Nat} (hr : BsRel l key i i) : posK l key = i := by
  unfold posK
  rw [filter_pre _ l i hr.2.1 hr.2.2.1 hr.2.2.2, List.length_take]
  have := hr.2.1
  omega
def retS (i : Nat) (b : Bool) : Ending := .returned (.tuple #[.int .i64 i, .bool b])
theorem found_at {l : List PR} {key : ByteArray} {i : Nat} (hr : BsRel l key i i) {x : PR} (hx : l[i]? = some x) : foundK l key = decide (x.1 = key) := by
  unfold foundK
  rw [hr.pos, hx]
theorem found_end {l : List PR} {key : ByteArray} {i : Nat} (hr : BsRel l key i i) (hx : l.length ≤ i) : foundK l key = false := by
  unfold foundK
  rw [hr.pos, List.getElem?_eq_none hx]
theorem cmpS_lt {a b : ByteArray} (h : ltS a b = true) : cmpS a b = -1 := by unfold cmpS; rw [if_pos h]
theorem cmpS_eq0 {a b : ByteArray} (h : a = b) : cmpS a b = 0 := by unfold cmpS; rw [h, ltS_irrefl, if_neg (by simp), if_pos rfl]
theorem cmpS_gt {a b : ByteArray} (h : ltS a b = false) (hne : a ≠ b) : cmpS a b = 1 := by unfold cmpS; rw [h, if_neg (by simp), if_neg hne]

set_option maxRecDepth 20000 in
set_option maxHeartbeats 4000000 in
theorem search_any (A : Option Addr) (c : Nat) (l : List PR) (key : ByteArray) (w : World) (hsl : PL w w.heap.size A l) (ha : Asc l) (hn : l.length ≤ 100000) :
    Calls Tryd.prog 71 #[.slice A l.length c, .string key, .func (.func 72) #[] #[]] w fun e w' => e = retS (posK l key) (foundK l key) ∧ Below w.heap.size w w' := by
  have HS := Lib.hid hsl
  have HA := Lib.hid ha
  have HCK := Lib.hid (fun x w => compareKey_any x key w)
  have HF := Lib.hid (fun i h => @found_at l key i h)
  have HF2 := Lib.hid (fun i h => @found_end l key i h)
  have HP := Lib.hid (fun i h => @BsRel.pos l key i h)
  have H0 := Lib.hid (BsRel.start l key)
  generalize foundK l key = fk at HF HF2 ⊢
  generalize posK l key = pk at HP ⊢
  clear hsl ha
  go_enter Tryd.func71, Tryd.ntmps71
  go_wp2
  go_loopg [9, 10] l.length (fun g s9 s10 wr => ∃ lo hi : Nat, s9 = .int .i64 lo ∧ s10 = .int .i64 hi ∧ hi - lo ≤ g ∧ BsRel l key lo hi ∧ Below w.heap.size w wr)
  case atStart => exact ⟨0, l.length, rfl, rfl, by omega, H0.out, Below.refl _ _⟩
  case round =>
    obtain ⟨lo, hi, rfl, rfl, hg, hrel, hb⟩ := hrel
    have HR := Lib.hid hrel
    have HB := Lib.hid hb
    have hlh := hrel.1
    have hhn := hrel.2.1
    clear hrel
    by_cases hlt : lo < hi
    · obtain ⟨x, hx⟩ : ∃ x, l[(lo + hi) / 2]? = some x := ⟨_, List.getElem?_eq_getElem (by omega)⟩
      obtain ⟨b, o, hA, hbB, kk, kv⟩ := PL.at_ (HS.out.step hb) hx
      subst hA
      have HX := Lib.hid hx
      have HC := Lib.hid (HCK.out x wr)
      clear hb hx
      by_cases hl : ltS x.1 key = true
      · have HN := Lib.hid (HR.out.less HA.out (by omega) (by omega) HX.out hl)
        rw [cmpS_lt hl] at HC
        clear hl
        go_wp2_with fail
        refine HC.out.mono ?_
        rintro e w1 ⟨rfl, hb1⟩
        have HB1 := Lib.hid (stepB HB.out hb1)
        clear hb1
        go_wp2
        go_roundg (hi - ((lo + hi) / 2 + 1))
        case measure => omega
        case rel => exact ⟨(lo + hi) / 2 + 1, hi, by rw [show ((lo : Int) + (hi : Int)) / 2 + 1 = (((lo + hi) / 2 + 1 : Nat) : Int) by omega], rfl, Nat.le_refl _, HN.out, HB1.out⟩
      · have hl' : ltS x.1 key = false := by simpa using hl
        have HN := Lib.hid (HR.out.notless HA.out (by omega) (by omega) HX.out hl')
        obtain ⟨v, hv, hv0⟩ : ∃ v : Int, cmpS x.1 key = v ∧ 0 ≤ v := by
          by_cases he : x.1 = key
          · exact ⟨0, cmpS_eq0 he, by omega⟩
          · exact ⟨1, cmpS_gt hl' he, by omega⟩
        rw [hv] at HC
        have d1 : decide (v < 0) = false := decide_eq_false (by omega)
        clear hl hl' hv
        go_wp2_with fail
        refine HC.out.mono ?_
        rintro e w1 ⟨rfl, hb1⟩
        have HB1 := Lib.hid (stepB HB.out hb1)
        clear hb1
        go_wp2
        go_roundg ((lo + hi) / 2 - lo)
        case measure => omega
        case rel => exact ⟨lo, (lo + hi) / 2, rfl, by rw [show ((lo : Int) + (hi : Int)) / 2 = (((lo + hi) / 2 : Nat) : Int) by omega], Nat.le_refl _, HN.out, HB1.out⟩
    · obtain rfl : hi = lo := by omega
      have HPK := Lib.hid (HP.out _ HR.out)
      by_cases hin : hi < l.length
      · obtain ⟨x, hx⟩ : ∃ x, l[hi]? = some x := ⟨_, List.getElem?_eq_getElem hin⟩
        obtain ⟨b, o, hA, hbB, kk, kv⟩ := PL.at_ (HS.out.step hb) hx
        subst hA
        have HFK := Lib.hid (HF.out _ HR.out hx)
        have HC := Lib.hid (HCK.out x wr)
        have hnl : ltS x.1 key = false := HR.out.2.2.2 hi x (Nat.le_refl _) hx
        clear hb hx
        by_cases he : x.1 = key
        · rw [cmpS_eq0 he] at HC
          have HFV : Hid (fk = true) := Lib.hid (by rw [HFK.out]; exact decide_eq_true he)
          clear he hnl
          go_wp2_with fail
          refine HC.out.mono ?_
          rintro e w1 ⟨rfl, hb1⟩
          have HB1 := Lib.hid (stepB HB.out hb1)
          clear hb1
          go_wp2
          go_ret2
          exact ⟨by rw [HPK.out, HFV.out]; rfl, HB1.out⟩
        · rw [cmpS_gt hnl he] at HC
          have HFV : Hid (fk = false) := Lib.hid (by rw [HFK.out]; exact decide_eq_false he)
          clear he hnl
          go_wp2_with fail
          refine HC.out.mono ?_
          rintro e w1 ⟨rfl, hb1⟩
          have HB1 := Lib.hid (stepB HB.out hb1)
          clear hb1
          go_wp2
          go_ret2
          exact ⟨by rw [HPK.out, HFV.out]; rfl, HB1.out⟩
      · have HFV : Hid (fk = false) := Lib.hid (HF2.out _ HR.out (by omega))
        clear hb
        go_wp2
        go_ret2
        exact ⟨by rw [HPK.out, HFV.out]; rfl, HB.out⟩

end Go.Proofs.YthpplhhlhheopabDoor
