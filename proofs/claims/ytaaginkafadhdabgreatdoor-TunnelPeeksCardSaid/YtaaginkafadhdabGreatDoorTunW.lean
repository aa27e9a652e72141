/-
  The examples that every statement of brokerlaw09 holds besides: awake answers true. Conditions: none.
-/
import Derived.Test.YtaaginkafadhdabGreatDoorTunA
namespace Go.Proofs.YtaaginkafadhdabGreatDoor
open Go.RowKit

theorem name_worldT {C : World → Prop} (W : World) (h : ∀ w1, w1 = W → C w1) : C W := h W rfl
/-- a tunnel's box -/
def OneB (b : Nat) (c s g : Int) (x : Bool) (w : World) : Prop := w.cell? ⟨b, 0, none⟩ = some (.int .i64 c) ∧ w.cell? ⟨b, 1, none⟩ = some (.int .i64 s) ∧ w.cell? ⟨b, 2, none⟩ = some (.int .i64 g) ∧ w.cell? ⟨b, 3, none⟩ = some (.bool x)
theorem OneB.step {b : Nat} {c s g : Int} {x : Bool} {w w' : World} (h : OneB b c s g x w) (hb : Below w.heap.size w w') (hlt : b < w.heap.size) : OneB b c s g x w' :=
  ⟨(hb.cell (p := ⟨b, 0, none⟩) hlt).trans h.1, (hb.cell (p := ⟨b, 1, none⟩) hlt).trans h.2.1, (hb.cell (p := ⟨b, 2, none⟩) hlt).trans h.2.2.1, (hb.cell (p := ⟨b, 3, none⟩) hlt).trans h.2.2.2⟩
theorem peek7 (A : Option Addr) (c : Nat) (w : World) (h : CL bv w w.heap.size A [4, 95, 123, 143, 197, 2, 2]) (hc : 7 ≤ c) :
    Calls Tryz.prog 10 #[.slice A 7 c] w fun e w' => e = .returned (.tuple #[.int .i64 1, .int .i64 1, .int .i64 0]) ∧ Below w.heap.size w w' := by
  have := tPeek_any A c [4, 95, 123, 143, 197, 2, 2] w h hc (by decide)
  rw [bytes7] at this
  exact this
theorem one_new (c s g : Int) (x : Bool) (w : World) {W : World} (hW : W = w.alloc (.cells #[.int .i64 c, .int .i64 s, .int .i64 g, .bool x] 23)) :
    OneB w.heap.size c s g x W ∧ Below w.heap.size w W ∧ w.heap.size < W.heap.size := by
  subst hW
  exact ⟨⟨by simp, by simp, by simp, by simp⟩, (Below.refl _ _).alloc (Nat.le_refl _) _, by simp⟩

theorem run_fieldT (a b c : Int) (d : Bool) (w : World) : (Instr.field 23 (.agg #[.int .i64 a, .int .i64 b, .int .i64 c, .bool d]) 3).run Tryz.prog w = .ok (.bool d) w := by kernel_rfl
set_option maxRecDepth 20000 in
set_option maxHeartbeats 4000000 in
theorem awake9_any (w : World) : Calls Tryz.prog 9 #[] w fun e w' => e = .returned (.bool true) ∧ Below w.heap.size w w' := by
  have n1 := fun w => tNew_any 1 w
  have s1 := fun w => tSend1 w
  have r0 := fun A c w h hc => tRecv0 A c w h hc
  have r1 := fun A c w h hc => tRecv1 A c w h hc
  have b1 := fun w => tBreak_any 1 0 1 false w
  unfold RetS at s1
  unfold RetRc at r0 r1
  unfold tV at n1 s1 r0 r1 b1
  have HN := Lib.hid n1
  have HSd := Lib.hid s1
  have HR0 := Lib.hid r0
  have HR1 := Lib.hid r1
  have HBr := Lib.hid b1
  clear n1 s1 r0 r1 b1
  go_enter Tryz.func9, Tryz.ntmps9
  go_wp2_with fail
  refine (HN.out _).mono ?_
  rintro e w1 ⟨rfl, hb⟩
  have HB1 := Lib.hid hb
  clear hb
  go_wp2_with fail
  refine (HSd.out _).mono ?_
  rintro e w2 ⟨A, c, rfl, hs, hc, hb⟩
  have HS2 := Lib.hid hs
  have HC := Lib.hid hc
  have HB2 := Lib.hid (stepB HB1.out hb)
  clear hb hs hc HB1
  go_wp2_with fail
  refine name_worldT (C := fun W => Calls _ _ _ W _) _ ?_
  rintro w3 hw3
  obtain ⟨t2, hb, hz⟩ := one_new 1 1 0 false w2 hw3
  have HT2 := Lib.hid t2
  have HS3 := Lib.hid (HS2.out.step hb)
  have HB3 := Lib.hid (stepB HB2.out hb)
  clear hw3 t2 hb HS2 HB2
  refine (peek7 A c _ HS3.out HC.out).mono ?_
  rintro e w4 ⟨rfl, hb⟩
  have HT2 := Lib.hid (HT2.out.step hb hz)
  have HS4 := Lib.hid (HS3.out.step hb)
  have HB4 := Lib.hid (stepB HB3.out hb)
  have hz4 := Nat.lt_of_lt_of_le hz hb.size
  clear hb HS3 HB3 hz
  go_wp2_with fail
  refine (HN.out _).mono ?_
  rintro e w5 ⟨rfl, hb⟩
  have HT2 := Lib.hid (HT2.out.step hb hz4)
  have HS5 := Lib.hid (HS4.out.step hb)
  have HB5 := Lib.hid (stepB HB4.out hb)
  have hz5 := Nat.lt_of_lt_of_le hz4 hb.size
  clear hb HS4 HB4 hz4
  go_wp2_with fail
  refine (HR0.out A c _ HS5.out HC.out).mono ?_
  rintro e w6 ⟨rfl, hb⟩
  have HT2 := Lib.hid (HT2.out.step hb hz5)
  have HS6 := Lib.hid (HS5.out.step hb)
  have HB6 := Lib.hid (stepB HB5.out hb)
  have hz6 := Nat.lt_of_lt_of_le hz5 hb.size
  clear hb HS5 HB5 hz5
  go_wp2_with fail
  refine name_worldT (C := fun W => Calls _ _ _ W _) _ ?_
  rintro w7 hw7
  obtain ⟨t8, hb, hz8⟩ := one_new 1 0 1 false w6 hw7
  have HT2 := Lib.hid (HT2.out.step hb hz6)
  have HT8 := Lib.hid t8
  have HS7 := Lib.hid (HS6.out.step hb)
  have HB7 := Lib.hid (stepB HB6.out hb)
  have hz7 := Nat.lt_of_lt_of_le hz6 hb.size
  clear hw7 t8 hb HS6 HB6 hz6
  refine (HR1.out A c _ HS7.out HC.out).mono ?_
  rintro e w8 ⟨rfl, hb⟩
  have HT2 := Lib.hid (HT2.out.step hb hz7)
  have HT8 := Lib.hid (HT8.out.step hb hz8)
  have HS8 := Lib.hid (HS7.out.step hb)
  have HB8 := Lib.hid (stepB HB7.out hb)
  have hy7 := Nat.lt_of_lt_of_le hz7 hb.size
  have hy8 := Nat.lt_of_lt_of_le hz8 hb.size
  clear hb HS7 HB7 hz7 hz8
  go_upto_region 5 with fail
  refine name_worldT (C := fun W => Code.wp _ _ _ _ W) _ ?_
  rintro w9 hw9
  obtain ⟨t11, hb, hz11⟩ := one_new 1 0 1 false w8 hw9
  have HT2 := HT2.out.step hb hy7
  have HT8 := HT8.out.step hb hy8
  have HS9 := HS8.out.step hb
  have HB9 := Lib.hid (stepB HB8.out hb)
  obtain ⟨p0, p1, p2, p3⟩ := HT2
  obtain ⟨q0, q1, q2, q3⟩ := HT8
  obtain ⟨r0, r1, r2, r3⟩ := t11
  obtain ⟨bb, oo, hA, _, hcl⟩ := HS9 (by decide)
  subst hA
  have hx := hcl 0 4 rfl
  have hx0 : w9.cell? ⟨bb, oo, none⟩ = some (.int .u8 4) := hx
  have hc7 : ¬ c = 0 := by have := HC.out; omega
  clear hw9 hb HS8 HB8 hcl hx
  go_wp2_with fail
  refine (HBr.out _).mono ?_
  rintro e wz ⟨rfl, hb⟩
  have HBz := Lib.hid (stepB HB9.out hb)
  clear hb HB9
  have hfd := run_fieldT 1 0 1 true wz
  go_wp2_with fail
  go_ret
  exact ⟨rfl, HBz.out⟩

end Go.Proofs.YtaaginkafadhdabGreatDoor
