/-
  The examples of the chapter, which each law of fair checks too: they hold. Conditions: none.
-/
import Derived.Test.YtjkhfifnfgchgaaFaD
namespace Go.Proofs.Ytjkhfifnfgchgaa
open Go.RowKit
open S2 (BK Put)

def exA : List Cs := [⟨1, 0, ⟨#[113]⟩, 0, 0⟩, ⟨2, 0, ⟨#[112]⟩, 0, 0⟩, ⟨3, 0, ⟨#[113]⟩, 0, 0⟩]
def exB : List Cs := [⟨1, 0, ⟨#[113]⟩, 0, 0⟩, ⟨2, 0, ⟨#[112]⟩, 0, 0⟩, ⟨3, 0, ⟨#[113]⟩, 1, 1⟩]
def exC : List Cs := [⟨1, 0, ⟨#[113]⟩, 0, 0⟩, ⟨2, 0, ⟨#[112]⟩, 0, 0⟩, ⟨3, 0, ⟨#[113]⟩, 1, 0⟩]
def exL : List Value := [.int .i64 1, .int .i64 2, .int .i64 3, .int .i64 9]
def exW : List Value := [.int .i64 2, .int .i64 2, .int .i64 0, .int .i64 0]
theorem bk_csl {w : World} {g : Nat} {xs : List Cs} (h : BK 25 w g (xs.flatMap gC)) : CsL w w.heap.size (some ⟨g, 0, none⟩) xs := fun _ => ⟨g, 0, rfl, h.lt, fun j x i v hx hv => by
  rw [Nat.zero_add]
  exact row_atG (sp := []) gC_len (by rw [List.append_nil]; exact h) hx i v hv⟩
theorem three_laid {T1 T2 T3 : TypeId} {w w1 : World} {v1 v2 v3 : List Value} (h : w1 = ((w.alloc (.cells v1.toArray T1)).alloc (.cells v2.toArray T2)).alloc (.cells v3.toArray T3)) :
    BK T1 w1 w.heap.size v1 ∧ BK T2 w1 (w.heap.size + 1) v2 ∧ BK T3 w1 (w.heap.size + 1 + 1) v3 ∧ Below w.heap.size w w1 := by
  obtain ⟨wa, ha⟩ : ∃ x, x = (w.alloc (.cells v1.toArray T1)).alloc (.cells v2.toArray T2) := ⟨_, rfl⟩
  rw [← ha] at h
  obtain ⟨h1, h2, h3, h4⟩ := S2.two_laid ha
  have hb : Below wa.heap.size wa w1 := by rw [h]; exact S2.below_new wa _
  have hz : wa.heap.size = w.heap.size + 1 + 1 := by rw [ha]; simp
  exact ⟨h1.step hb, h2.step hb, by rw [h, ← hz]; exact BK.new wa _ _, stepB h4 hb⟩
theorem nx_A1 : nxC exA ⟨#[113]⟩ 1 = some 2 := by decide
theorem nx_A2 : nxC exA ⟨#[113]⟩ 2 = some 2 := by decide
theorem nx_A3 : nxC exA ⟨#[113]⟩ 3 = some 0 := by decide
theorem nx_A9 : nxC exA ⟨#[113]⟩ 9 = some 0 := by decide
theorem nx_B1 : nxC exB ⟨#[113]⟩ 1 = some 0 := by decide
theorem nx_Br : nxC exB ⟨#[114]⟩ 1 = none := by decide
theorem ad_B : addC exB ⟨3, 0, ⟨#[122]⟩, 0, 0⟩ = ([], 7) := by kernel_rfl
theorem cn_B : cntC exB 0 3 (-5) = exC := by decide
theorem ck_B : chkC exB = 0 := by kernel_rfl
theorem rd_B : rdyC ⟨3, 0, ⟨#[113]⟩, 1, 1⟩ = false := by decide

set_option maxRecDepth 20000 in
set_option maxHeartbeats 8000000 in
theorem example_any (w : World) : Calls Try.prog 8 #[] w fun e w' => e = .returned (.bool true) ∧ Below w.heap.size w w' := by
  have HNX := Lib.hid (fun A c xs q last w1 h hn => fNext_any A c xs q last w1 h hn)
  have HAD := Lib.hid (fun A c xs x w1 h hn hq => fAdd_any A c xs x w1 h hn hq)
  have HCN := Lib.hid (fun A c xs cn tg n w1 h hn hu => fCount_any A c xs cn tg n w1 h hn hu)
  have HRD := Lib.hid (fun x w1 => fReady_any x w1)
  have HCK := Lib.hid (fun A c xs w1 h hc hn hq => fCheck_any A c xs w1 h hc hn hq)
  go_enter Try.func8, Try.ntmps8
  go_wp2_with fail
  refine name_world (C := fun w1 => Code.wp _ _ _ _ w1) (((w.alloc (.cells (exA.flatMap gC).toArray 25)).alloc (.cells exW.toArray 3)).alloc (.cells exL.toArray 3)) ?_
  intro w1 hw1
  obtain ⟨t1, t2, t3, hb1⟩ := three_laid hw1
  have HT := Lib.hid (And.intro t1 (And.intro t2 t3))
  have HB1 := Lib.hid hb1
  have HG : Hid (w.heap.size ≤ w.heap.size) := Lib.hid (Nat.le_refl _)
  clear hw1 t1 t2 t3 hb1
  go_loopg [21] 4 (fun n v wr => ∃ k : Nat, k + n = 4 ∧ v = .int .i64 k ∧ (BK 25 wr w.heap.size (exA.flatMap gC) ∧ BK 3 wr (w.heap.size + 1) exW ∧ BK 3 wr (w.heap.size + 1 + 1) exL) ∧ Below w.heap.size w wr)
  case atStart => exact ⟨0, by omega, rfl, HT.out, HB1.out⟩
  case round =>
    obtain ⟨k, hkg, rfl, hT, hb⟩ := hrel
    have HT1 := Lib.hid hT
    have HB := Lib.hid hb
    have HK := Lib.hid hkg
    clear hT hb HT HB1
    cases gk with
    | zero =>
      obtain rfl : k = 4 := by omega
      clear hkg
      have hBK := HT1.out.1
      have ROW := Lib.hid hBK
      have d1 : wr.cell? ⟨w.heap.size, 13, none⟩ = some (.int .i64 0) := hBK.cell 13 rfl
      have d2 : wr.cell? ⟨w.heap.size, 14, none⟩ = some (.int .i64 0) := hBK.cell 14 rfl
      have f1 := hBK.free 13
      have f2 := hBK.free 14
      have hlt := hBK.lt
      clear hBK
      go_upto_region 11 with fail
      refine name_world (C := fun w9 => Code.wp _ _ _ _ w9) ((wr.setCell ⟨w.heap.size, 13, none⟩ (.int .i64 1)).setCell ⟨w.heap.size, 14, none⟩ (.int .i64 1)) ?_
      intro w2 hw2
      have hM1 := ROW.out.set 13 (.int .i64 1)
      have hP1 : Put w.heap.size wr (wr.setCell ⟨w.heap.size, 13, none⟩ (.int .i64 1)) := S2.Put.of_set ROW.out
      have M2 : Hid (BK 25 w2 w.heap.size (exB.flatMap gC)) := Lib.hid (by rw [hw2]; exact hM1.set 14 (.int .i64 1))
      have B2 : Hid (Below w.heap.size w w2) := Lib.hid (by rw [hw2]; exact (S2.Put.of_set hM1).below (hP1.below HB.out HG.out) HG.out)
      clear hw2 hM1 hP1 d1 d2 f1 f2 hlt ROW HB HT1
      go_wp2_with fail
      refine (HNX.out (some ⟨w.heap.size, 0, none⟩) 3 exB ⟨#[113]⟩ 1 w2 (bk_csl M2.out) (by decide)).mono ?_
      rw [nx_B1]
      rintro e w3 ⟨rfl, hb⟩
      have M3 := Lib.hid (M2.out.step hb)
      have B3 := Lib.hid (stepB B2.out hb)
      clear hb M2 B2
      unfold nxI
      dsimp only
      go_wp2_with fail
      refine (HNX.out (some ⟨w.heap.size, 0, none⟩) 3 exB ⟨#[114]⟩ 1 w3 (bk_csl M3.out) (by decide)).mono ?_
      rw [nx_Br]
      rintro e w4 ⟨rfl, hb⟩
      have M4 := Lib.hid (M3.out.step hb)
      have B4 := Lib.hid (stepB B3.out hb)
      clear hb M3 B3
      unfold nxI
      dsimp only
      go_wp2_with fail
      refine (HAD.out (some ⟨w.heap.size, 0, none⟩) 3 exB ⟨3, 0, ⟨#[122]⟩, 0, 0⟩ w4 (bk_csl M4.out) (by decide) (by decide)).mono ?_
      rw [ad_B]
      rintro e w5 ⟨v5, rfl, hown, hb⟩
      have M5 := Lib.hid (M4.out.step hb)
      have B5 := Lib.hid (stepB B4.out hb)
      clear hb hown M4 B4
      go_wp2_with fail
      refine (HCN.out (some ⟨w.heap.size, 0, none⟩) 3 exB 0 3 (-5) w5 (bk_csl M5.out) (by decide) (by decide)).mono ?_
      rw [cn_B]
      rintro e w6 ⟨v6, rfl, hown, hb⟩
      have M6 := Lib.hid (M5.out.step hb)
      have B6 := Lib.hid (stepB B5.out hb)
      obtain ⟨A6, c6, rfl, hc6, hgl⟩ := OwnG.ret gC_len hown
      obtain ⟨b6, o6, rfl, hb6, hce⟩ := CsL.at_ (j := 2) (x := ⟨3, 0, ⟨#[113]⟩, 1, 0⟩) hgl rfl
      have c64 : w6.cell? ⟨b6, o6 + 10 + 4, none⟩ = some (.int .i64 0) := hce 4 _ rfl
      obtain ⟨b7, o7, hA7, hb7, hce7⟩ := CsL.at_ (j := 2) (x := ⟨3, 0, ⟨#[113]⟩, 1, 1⟩) (bk_csl M6.out) rfl
      simp only [Option.some.injEq, Addr.mk.injEq, and_true] at hA7
      obtain ⟨rfl, rfl⟩ := hA7
      have HLD := Lib.hid (load_cs hce7)
      have hl6 : exC.length = 3 := rfl
      clear hb hown hgl hc6 hce hb6 hb7 hce7 M5 B5
      go_wp2_with first
        | (refine wpList_load_v (by rfl) 25 _ rfl ⟨w.heap.size, 10, none⟩ (by go_simp) _ HLD.out ?_)
      refine (HRD.out _ w6).mono ?_
      rw [rd_B]
      rintro e w7 ⟨rfl, hb⟩
      have M7 := Lib.hid (M6.out.step hb)
      have B7 := Lib.hid (stepB B6.out hb)
      clear hb M6 B6
      go_wp2_with fail
      refine (HCK.out (some ⟨w.heap.size, 0, none⟩) 3 exB w7 (bk_csl M7.out) (by decide) (by decide) (by decide)).mono ?_
      rw [ck_B]
      rintro e w8 ⟨rfl, hb⟩
      have B8 := Lib.hid (stepB B7.out hb)
      clear hb
      go_wp2
      go_ret
      exact ⟨rfl, B8.out⟩
    | succ n =>
      have hS := bk_csl HT1.out.1
      have HS := Lib.hid hS
      obtain rfl | rfl | rfl | rfl : k = 0 ∨ k = 1 ∨ k = 2 ∨ k = 3 := by omega
      · have c1 : wr.cell? ⟨w.heap.size + 1 + 1, 0, none⟩ = some (.int .i64 1) := HT1.out.2.2.cell 0 rfl
        have c2 := HT1.out.2.1
        have HC2 := Lib.hid c2
        clear c2 hS hkg
        go_wp2_with fail
        refine (HNX.out (some ⟨w.heap.size, 0, none⟩) 3 exA ⟨#[113]⟩ 1 wr HS.out (by decide)).mono ?_
        rw [nx_A1]
        rintro e w2 ⟨rfl, hb⟩
        have HT2 := Lib.hid (And.intro (HT1.out.1.step hb) (And.intro (HT1.out.2.1.step hb) (HT1.out.2.2.step hb)))
        have HB2 := Lib.hid (stepB HB.out hb)
        have c2 : w2.cell? ⟨w.heap.size + 1, 0, none⟩ = some (.int .i64 2) := HT2.out.2.1.cell 0 rfl
        clear hb c1
        unfold nxI
        dsimp only
        go_wp2
        go_roundg n
        case measure => omega
        case rel => exact ⟨1, by have := HK.out; omega, by go_num, HT2.out, HB2.out⟩
      · have c1 : wr.cell? ⟨w.heap.size + 1 + 1, 1, none⟩ = some (.int .i64 2) := HT1.out.2.2.cell 1 rfl
        have c2 := HT1.out.2.1
        have HC2 := Lib.hid c2
        clear c2 hS hkg
        go_wp2_with fail
        refine (HNX.out (some ⟨w.heap.size, 0, none⟩) 3 exA ⟨#[113]⟩ 2 wr HS.out (by decide)).mono ?_
        rw [nx_A2]
        rintro e w2 ⟨rfl, hb⟩
        have HT2 := Lib.hid (And.intro (HT1.out.1.step hb) (And.intro (HT1.out.2.1.step hb) (HT1.out.2.2.step hb)))
        have HB2 := Lib.hid (stepB HB.out hb)
        have c2 : w2.cell? ⟨w.heap.size + 1, 1, none⟩ = some (.int .i64 2) := HT2.out.2.1.cell 1 rfl
        clear hb c1
        unfold nxI
        dsimp only
        go_wp2
        go_roundg n
        case measure => omega
        case rel => exact ⟨2, by have := HK.out; omega, by go_num, HT2.out, HB2.out⟩
      · have c1 : wr.cell? ⟨w.heap.size + 1 + 1, 2, none⟩ = some (.int .i64 3) := HT1.out.2.2.cell 2 rfl
        have c2 := HT1.out.2.1
        have HC2 := Lib.hid c2
        clear c2 hS hkg
        go_wp2_with fail
        refine (HNX.out (some ⟨w.heap.size, 0, none⟩) 3 exA ⟨#[113]⟩ 3 wr HS.out (by decide)).mono ?_
        rw [nx_A3]
        rintro e w2 ⟨rfl, hb⟩
        have HT2 := Lib.hid (And.intro (HT1.out.1.step hb) (And.intro (HT1.out.2.1.step hb) (HT1.out.2.2.step hb)))
        have HB2 := Lib.hid (stepB HB.out hb)
        have c2 : w2.cell? ⟨w.heap.size + 1, 2, none⟩ = some (.int .i64 0) := HT2.out.2.1.cell 2 rfl
        clear hb c1
        unfold nxI
        dsimp only
        go_wp2
        go_roundg n
        case measure => omega
        case rel => exact ⟨3, by have := HK.out; omega, by go_num, HT2.out, HB2.out⟩
      · have c1 : wr.cell? ⟨w.heap.size + 1 + 1, 3, none⟩ = some (.int .i64 9) := HT1.out.2.2.cell 3 rfl
        have c2 := HT1.out.2.1
        have HC2 := Lib.hid c2
        clear c2 hS hkg
        go_wp2_with fail
        refine (HNX.out (some ⟨w.heap.size, 0, none⟩) 3 exA ⟨#[113]⟩ 9 wr HS.out (by decide)).mono ?_
        rw [nx_A9]
        rintro e w2 ⟨rfl, hb⟩
        have HT2 := Lib.hid (And.intro (HT1.out.1.step hb) (And.intro (HT1.out.2.1.step hb) (HT1.out.2.2.step hb)))
        have HB2 := Lib.hid (stepB HB.out hb)
        have c2 : w2.cell? ⟨w.heap.size + 1, 3, none⟩ = some (.int .i64 0) := HT2.out.2.1.cell 3 rfl
        clear hb c1
        unfold nxI
        dsimp only
        go_wp2
        go_roundg n
        case measure => omega
        case rel => exact ⟨4, by have := HK.out; omega, by go_num, HT2.out, HB2.out⟩
end Go.Proofs.Ytjkhfifnfgchgaa
