/-
  What the chapter's examples of dead say, as plain data; the example's texts cut into letters. Conditions: none.
-/
import Derived.Test.YthpplhhlhheopabGreatDoorDzH
namespace Go.Proofs.YthpplhhlhheopabGreatDoor
open Go.RowKit
open S2 (BK Put)

theorem name_chars {l : List UInt8} (h : S1.T.nameL l = true) : ∀ c ∈ l, c ≠ 32 := fun c hc e => by
  subst e
  obtain ⟨i, hi, he⟩ := List.mem_iff_getElem.1 hc
  have hn : S1.T.nokAt i (l.getD i 0) = false := by
    rw [List.getD_eq_getElem?_getD, List.getElem?_eq_getElem hi, Option.getD_some, he]
    unfold S1.T.nokAt
    cases i <;> rfl
  rw [S1.T.nameL_false_at hi hn] at h
  cases h
theorem from_died {q : ByteArray} {r : Nat} (hq : nameR q = true) (h1 : 1 ≤ r) (h4 : r ≤ 4) : fromT (diedT q r) = (q, (r : Int)) := by
  have hb : befS (dl (diedT q r)) = dl q := by rw [diedT_dl]; exact befS_name (name_chars hq)
  have ha : aftS (dl (diedT q r)) = [UInt8.ofNat (48 + r)] := by
    unfold aftS
    rw [hb, diedT_dl, show dl q ++ 32 :: [UInt8.ofNat (48 + r)] = (dl q ++ [32]) ++ [UInt8.ofNat (48 + r)] by simp, show (dl q).length + 1 = (dl q ++ [32]).length by simp, List.drop_left]
  have hd : (UInt8.ofNat (48 + r)).toNat = 48 + r := by rw [UInt8.toNat_ofNat']; omega
  rw [from_ok (by rw [hb]; exact hq) ha (by omega) (by omega), hb, bs_dl, hd]
  congr 1
  omega
theorem from_mark {q : ByteArray} {m : Msg} {r : Nat} (hc : checkR m = 0) (hq : nameR q = true) (h1 : 1 ≤ r) (h4 : r ≤ 4) : fromM (markR q m r) = (q, (r : Int)) := by
  obtain ⟨_, h2, _⟩ := propsR_parts (checkR_parts hc)
  show fromT (getR (markP m.props (numT (nextD m)) (diedT q r)) kDied).1 = _
  rw [mark_died h2]
  exact from_died hq h1 h4

/-! ### The example -/
def qB : ByteArray := ⟨#[113]⟩
def pB : ByteArray := ⟨#[112]⟩
def m0 : Msg := ⟨⟨#[116]⟩, ⟨#[]⟩, 0, false, 0, 0, ⟨#[]⟩, 0, []⟩
def chs : List UInt8 := [97, 98, 99, 100, 101, 102, 103, 104]
def fullP : List PR := chs.map fun c => (⟨#[c]⟩, ⟨#[]⟩)
def mF : Msg := { m0 with props := fullP }
def mD : Msg := { m0 with props := [(kDeaths, ⟨#[48, 55]⟩)] }
def s0 : Sp := ⟨qB, 1, 10, 2, ⟨#[]⟩⟩
theorem qB_name : nameR qB = true := by decide +kernel
theorem pB_name : nameR pB = true := by decide +kernel
theorem m0_ok : checkR m0 = 0 := by decide +kernel
theorem mF_ok : checkR mF = 0 := by decide +kernel
theorem mD_ok : checkR mD = 0 := by decide +kernel
theorem ex_r1 : reasonR s0 5 1 m0 14 = 0 := by decide +kernel
theorem ex_r2 : reasonR s0 5 1 m0 15 = 2 := by decide +kernel
theorem ex_r3 : reasonR s0 5 2 m0 5 = 4 := by decide +kernel
def m1 : Msg := markR qB m0 1
def n1 : Msg := markR pB m1 2
def mO : Msg := markR qB mF 3
def mE : Msg := markR qB mD 3
theorem m1_ok : checkR m1 = 0 := markR_ok m0_ok qB_name
theorem n1_ok : checkR n1 = 0 := markR_ok m1_ok pB_name
theorem mE_ok : checkR mE = 0 := markR_ok mD_ok qB_name
theorem m0_d : deathsM m0 = 0 := rfl
theorem m1_d : deathsM m1 = 1 := by
  unfold m1
  rw [deaths_mark m0_ok]
  unfold nextD
  rw [m0_d]
  rfl
theorem n1_d : deathsM n1 = 2 := by
  unfold n1
  rw [deaths_mark m1_ok]
  unfold nextD
  rw [m1_d]
  rfl
theorem mD_d : deathsM mD = 0 := deathsT_no fun n h1 h2 => by
  have h3 : getR mD.props kDeaths = (⟨#[48, 55]⟩, true) := by decide +kernel
  rw [h3] at h1
  have h4 := dec_from n
  rw [h1, show Lib.decFrom 0 (dl ⟨#[48, 55]⟩) = some 7 from by decide +kernel] at h4
  obtain rfl := Option.some.inj h4
  rw [Lib.decDigits_one (by decide)] at h1
  exact absurd h1 (by decide +kernel)
theorem mE_d : deathsM mE = 1 := by
  unfold mE
  rw [deaths_mark mD_ok]
  unfold nextD
  rw [mD_d]
  rfl
theorem m1_f : fromM m1 = (qB, 1) := from_mark m0_ok qB_name (by decide) (by decide)
theorem n1_f : fromM n1 = (pB, 2) := from_mark m1_ok pB_name (by decide) (by decide)
theorem n1_a : againM n1 = true := by unfold againM; rw [n1_d]; rfl
theorem ex_o (d q : ByteArray) : markP fullP d q = [(⟨#[97]⟩, ⟨#[]⟩), (⟨#[98]⟩, ⟨#[]⟩), (⟨#[99]⟩, ⟨#[]⟩), (⟨#[100]⟩, ⟨#[]⟩), (kDeaths, d), (kDied, q), (⟨#[101]⟩, ⟨#[]⟩), (⟨#[102]⟩, ⟨#[]⟩)] := by kernel_rfl
theorem mO_at : ∃ d q, mO.props = [(⟨#[97]⟩, ⟨#[]⟩), (⟨#[98]⟩, ⟨#[]⟩), (⟨#[99]⟩, ⟨#[]⟩), (⟨#[100]⟩, ⟨#[]⟩), (kDeaths, d), (kDied, q), (⟨#[101]⟩, ⟨#[]⟩), (⟨#[102]⟩, ⟨#[]⟩)] := ⟨numT (nextD mF), diedT qB 3, ex_o _ _⟩
def abcB : ByteArray := ⟨#[97, 98, 99, 100, 101, 102, 103, 104]⟩
theorem split_ex (w : World) : Calls Tryz.prog 16 #[.string abcB, .string ⟨#[]⟩] w fun e w' => ∃ g, e = .returned (.slice (some ⟨g, 0, none⟩) 8 8) ∧ BK 9 w' g (chs.map fun c => .string ⟨#[c]⟩) ∧ w.heap.size ≤ g ∧ Below w.heap.size w w' := by
  refine (Tryz.strings_Split_chars abcB ⟨#[]⟩ w rfl (by decide +kernel) (fun j b hb => ?_)).mono fun e w' h => ?_
  · have hm := List.mem_of_getElem? hb
    have hall : ∀ b ∈ abcB.data.toList, b.toNat < 128 := by decide +kernel
    exact hall b hm
  · obtain ⟨he, rfl⟩ := h
    refine ⟨_, he, ?_, ((Below.refl w.heap.size w).alloc (Nat.le_refl _) _).size, stepB ((Below.refl _ _).alloc (Nat.le_refl _) _) (S2.below_new _ _)⟩
    have hch : (Lib.charsB abcB).map Value.string = chs.map fun c => .string ⟨#[c]⟩ := by kernel_rfl
    rw [hch]
    exact BK.new _ _ _

end Go.Proofs.YthpplhhlhheopabGreatDoor
