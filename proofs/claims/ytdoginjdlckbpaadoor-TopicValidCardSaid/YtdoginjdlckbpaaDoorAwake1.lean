/-
  The examples of the chapter on topics hold: awake of the topic statements answers true. Condition: MaxLen holds a number.
-/
import Derived.Test.YtdoginjdlckbpaaDoorJoin
namespace Go.Proofs.YtdoginjdlckbpaaDoor
open Go.RowKit

/-- what every call of a statement keeps: what was there at its beginning, and the library's variable -/
def Qk (W w : World) : Prop := Below W.heap.size W w ∧ Okw w
theorem Qk.ok {W w : World} (h : Qk W w) : Okw w := h.2
theorem Qk.refl {w : World} (h : Okw w) : Qk w w := ⟨Below.refl _ _, h⟩
theorem Qk.step {W w w' : World} (h : Qk W w) (hb : Below w.heap.size w w') : Qk W w' := ⟨Below.step h.1 hb, h.2.step hb⟩
theorem Qk.alloc {W w : World} (h : Qk W w) (o : Obj) : Qk W (w.alloc o) := h.step ((Below.refl _ _).alloc (Nat.le_refl _) o)
theorem Qk.drewN {W w : World} (h : Qk W w) (n : Nat) : Qk W (w.drewN n) := h.step (below_draw w n)
theorem Qk.drew {W w : World} (h : Qk W w) : Qk W w.drew := h.step ⟨rfl, rfl, rfl, Nat.le_refl _, fun _ _ => rfl⟩

theorem toB {P : Program} {f : FuncId} {args : Array Value} {w W : World} {a b : Bool} (c : Calls P f args w fun e w' => e = .returned (.bool a) ∧ Below w.heap.size w w') (h : a = b) (hq : Qk W w) :
    Calls P f args w fun e w' => e = .returned (.bool b) ∧ Qk W w' := c.mono fun _ _ ⟨he, hb⟩ => ⟨by rw [he, h], hq.step hb⟩

set_option maxHeartbeats 4000000 in
set_option maxRecDepth 100000 in
theorem awake1_any (w : World) (hw : Okw w) :
    Calls Tryd.prog 15 #[] w fun e w' => e = .returned (.bool true) ∧ Below w.heap.size w w' := by
  have hq0 := Qk.refl hw
  have s1 := tShared_any ⟨#[36, 115, 104, 97, 114, 101, 47, 103, 47, 97, 47, 43]⟩ w hw (by decide)
  have e1 : shRet (dl ⟨#[36, 115, 104, 97, 114, 101, 47, 103, 47, 97, 47, 43]⟩) = .returned (.tuple #[.string ⟨#[103]⟩, .string ⟨#[97, 47, 43]⟩, .bool true]) := shRet_yes (by decide +kernel)
  rw [e1] at s1
  have S1 := Lib.hid s1
  clear s1 e1 hw
  have HQ0 := Lib.hid hq0
  clear hq0
  go_enter Tryd.func15, Tryd.ntmps15
  go_wp2_with fail
  refine S1.out.mono ?_
  rintro e w1 ⟨rfl, hb1⟩
  have HQ1 := Lib.hid (HQ0.out.step hb1)
  clear hb1
  go_wp2_with fail
  refine (toB (tName_dl _ _) (show _ = true by decide +kernel) HQ1.out).mono ?_
  rintro e w2 ⟨rfl, hq2⟩
  go_wp2_with fail
  refine (toB (tName_dl _ _) (show _ = false by decide +kernel) hq2).mono ?_
  rintro e w3 ⟨rfl, hq3⟩
  go_wp2_with fail
  refine (toB (tValid_any _ _ hq3.2) (show _ = true by decide +kernel) hq3).mono ?_
  rintro e w4 ⟨rfl, hq4⟩
  go_wp2_with fail
  refine (toB (tValid_any _ _ hq4.2) (show _ = false by decide +kernel) hq4).mono ?_
  rintro e w5 ⟨rfl, hq5⟩
  go_wp2_with fail
  refine (toB (tFilter_any _ _ hq5.2) (show _ = true by decide +kernel) hq5).mono ?_
  rintro e w6 ⟨rfl, hq6⟩
  go_wp2_with fail
  refine (toB (tFilter_any _ _ hq6.2) (show _ = false by decide +kernel) hq6).mono ?_
  rintro e w7 ⟨rfl, hq7⟩
  go_wp2_with fail
  refine (tLevels_any _ _ hq7.2 (by decide)).mono ?_
  rintro e w8 ⟨A, c, rfl, hc, hsl, hb8⟩
  have hq8 := hq7.step hb8
  have hsl9 : SL (w8.alloc (.cells #[.string ⟨#[97]⟩, .string ⟨#[]⟩, .string ⟨#[98]⟩] 9)) (w8.alloc (.cells #[.string ⟨#[97]⟩, .string ⟨#[]⟩, .string ⟨#[98]⟩] 9)).heap.size A (lvB ⟨#[97, 47, 47, 98]⟩) := hsl.step ((Below.refl _ _).alloc (Nat.le_refl _) _)
  have hsn9 : SL (w8.alloc (.cells #[.string ⟨#[97]⟩, .string ⟨#[]⟩, .string ⟨#[98]⟩] 9)) (w8.alloc (.cells #[.string ⟨#[97]⟩, .string ⟨#[]⟩, .string ⟨#[98]⟩] 9)).heap.size (some ⟨w8.heap.size, 0, none⟩) [⟨#[97]⟩, ⟨#[]⟩, ⟨#[98]⟩] := SL.new (xs := [⟨#[97]⟩, ⟨#[]⟩, ⟨#[98]⟩])
  have hq9 := hq8.alloc (.cells #[.string ⟨#[97]⟩, .string ⟨#[]⟩, .string ⟨#[98]⟩] 9)
  have c9 := same_any A (some ⟨w8.heap.size, 0, none⟩) c 3 (lvB ⟨#[97, 47, 47, 98]⟩) [⟨#[97]⟩, ⟨#[]⟩, ⟨#[98]⟩] _ _ hsl9 hsn9 (by decide +kernel) (by decide)
  have e9 : sameB (lvB ⟨#[97, 47, 47, 98]⟩) [⟨#[97]⟩, ⟨#[]⟩, ⟨#[98]⟩] = true := by decide +kernel
  rw [e9] at c9
  have C9 := Lib.hid c9
  have HQ9 := Lib.hid hq9
  clear hsl9 hsn9 c9 e9 hq9 hq2 hq3 hq4 hq5 hq6 hq7 hq8 hb8 hsl
  go_wp2_with fail
  refine C9.out.mono ?_
  rintro e w10 ⟨rfl, n, rfl⟩
  have hq10 := HQ9.out.drewN n
  clear C9
  obtain ⟨w10, hw10⟩ : ∃ w10, (w8.alloc (.cells #[.string ⟨#[97]⟩, .string ⟨#[]⟩, .string ⟨#[98]⟩] 9)).drewN n = w10 := ⟨_, rfl⟩
  rw [hw10] at hq10 ⊢
  clear hw10 HQ9
  have hq11 := hq10.alloc (.cells #[.string ⟨#[97]⟩, .string ⟨#[98]⟩] 9)
  have c11 := tJoin_any (some ⟨w10.heap.size, 0, none⟩) 2 [⟨#[97]⟩, ⟨#[98]⟩] (w10.alloc (.cells #[.string ⟨#[97]⟩, .string ⟨#[98]⟩] 9)) (SL.new (xs := [⟨#[97]⟩, ⟨#[98]⟩])) (by decide) (by decide) (by decide +kernel)
  have e11 : jnB [⟨#[97]⟩, ⟨#[98]⟩] = ⟨#[97, 47, 98]⟩ := by decide +kernel
  rw [e11] at c11
  have C11 := Lib.hid c11
  clear c11 e11 hq10
  go_wp2_with fail
  refine C11.out.mono ?_
  rintro e w12 ⟨rfl, hb12⟩
  have hq12 := hq11.step hb12
  clear C11 hq11
  go_wp2_with fail
  have e13 : sysL (dl ⟨#[36, 97]⟩) = true := by decide +kernel
  have c13 := fun w => tSystem_any ⟨#[36, 97]⟩ w
  rw [e13] at c13
  refine (c13 _).mono ?_
  rintro e w13 ⟨rfl, rfl⟩
  go_wp2_with fail
  have e14 : sysL (dl ⟨#[]⟩) = false := by decide +kernel
  have c14 := fun w => tSystem_any ⟨#[]⟩ w
  rw [e14] at c14
  refine (c14 _).mono ?_
  rintro e w14 ⟨rfl, rfl⟩
  go_wp2_with fail
  go_ret
  exact ⟨rfl, hq12.1⟩

end Go.Proofs.YtdoginjdlckbpaaDoor
