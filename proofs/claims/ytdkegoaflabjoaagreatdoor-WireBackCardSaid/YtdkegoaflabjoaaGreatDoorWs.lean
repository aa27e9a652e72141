/-
What the writer of wire appends for flags, subscriptions, lists, a Connect packet and any valid packet; what Encode answers. Conditions: the packet's lists read as data; the tables of package unicode/utf8 are there.
-/
import Derived.Test.YtdkegoaflabjoaaGreatDoorWr
import Derived.Test.YtdkegoaflabjoaaGreatDoorWireT
import Derived.Test.YtdkegoaflabjoaaGreatDoorCheckP
set_option maxHeartbeats 8000000
set_option maxRecDepth 20000
namespace Go.Proofs.YtdkegoaflabjoaaGreatDoor
open Go.RowKit

theorem flagsR_one (a : Bool) : (flagsR [a] : Int) = b2i a := by cases a <;> decide
theorem flagsR_two (a b : Bool) : (flagsR [a, b] : Int) = fl2 a b := by cases a <;> cases b <;> decide
/-- a new block beside the writer is kept from now on -/
theorem WR.box {w wb : World} {R : Nat} {K : Nat → Prop} {xs : List UInt8} (h : WR w R K xs) (hb : Below w.heap.size w wb) {M : Nat} (hM : w.heap.size ≤ M ∧ M < wb.heap.size) :
 ∃ KB : Nat → Prop, (∀ g, K g → KB g) ∧ KB M ∧ WR wb R KB xs ∧ WK K w wb :=
 ⟨_, fun _ hg => .inl hg, .inr hM, h.grow hb, WK.of_below hb h.kept⟩

theorem wFlags_any (R : Nat) (K : Nat → Prop) (xs : List UInt8) (A : Option Addr) (c : Nat) (l : List Bool) (n : Int) (hl : (flagsR l : Int) = n) (hl2 : l.length ≤ 2) (hc : l.length ≤ c) (_h5 : 0 ≤ n) (h6 : n ≤ 4) (w0 w : World) (h : WR w R K xs) (hk : WK K w0 w) (B : Nat) (hsl : FL w B A l) (hn : xs.length ≤ 100000000) :
 Calls Tryz.prog 47 #[.pointer (some ⟨R, 0, none⟩), .slice A l.length c] w (RetW R K (xs ++ enc n) w0) := by
 have HF := Lib.hid (flags_any A c l w B hsl hc (by omega))
 rw [hl] at HF
 have HN := Lib.hid (wNum_any R K xs n w h hn (by omega) (by omega))
 clear hl hsl h
 go_enter Tryz.func47, Tryz.ntmps47
 go_wp2_with fail
 refine HF.out.mono ?_
 rintro e w' ⟨rfl, rfl⟩
 go_wp2_with fail
 refine HN.out.mono ?_
 rintro e w1 ⟨rfl, hr, hk1⟩
 go_wp2_with fail
 go_end0
 exact ⟨rfl, hr, hk.trans hk1⟩
theorem fl2_le (a b : Bool) : 0 ≤ fl2 a b ∧ fl2 a b ≤ 4 := by cases a <;> cases b <;> decide
theorem b2i_le (b : Bool) : 0 ≤ b2i b ∧ b2i b ≤ 4 := by cases b <;> decide
theorem wFlag1_any (R : Nat) (K : Nat → Prop) (xs : List UInt8) (a : Bool) (w : World) (h : WR w R K xs) (hn : xs.length ≤ 100000000) :
 Calls Tryz.prog 47 #[.pointer (some ⟨R, 0, none⟩), .slice (some ⟨w.heap.size, 0, none⟩) 1 1] (w.alloc (.cells #[.bool a] 4)) (RetW R K (xs ++ enc (b2i a)) w) :=
 have hb : Below w.heap.size w (w.alloc (.cells #[.bool a] 4)) := belA _ _
 wFlags_any R K xs (some ⟨w.heap.size, 0, none⟩) 1 [a] (b2i a) (flagsR_one a) (by simp) (Nat.le_refl _) (b2i_le a).1 (b2i_le a).2 w _ (h.below hb) (WK.of_below hb h.kept) _ (CL.new (f := Value.bool) (xs := [a])) hn
theorem wFlag2_any (R : Nat) (K : Nat → Prop) (xs : List UInt8) (a b : Bool) (w : World) (h : WR w R K xs) (hn : xs.length ≤ 100000000) :
 Calls Tryz.prog 47 #[.pointer (some ⟨R, 0, none⟩), .slice (some ⟨w.heap.size, 0, none⟩) 2 2] (w.alloc (.cells #[.bool a, .bool b] 4)) (RetW R K (xs ++ enc (fl2 a b)) w) :=
 have hb : Below w.heap.size w (w.alloc (.cells #[.bool a, .bool b] 4)) := belA _ _
 wFlags_any R K xs (some ⟨w.heap.size, 0, none⟩) 2 [a, b] (fl2 a b) (flagsR_two a b) (by simp) (Nat.le_refl _) (fl2_le a b).1 (fl2_le a b).2 w _ (h.below hb) (WK.of_below hb h.kept) _ (CL.new (f := Value.bool) (xs := [a, b])) hn

theorem wSub_any (R : Nat) (K : Nat → Prop) (xs : List UInt8) (x : SB) (w : World) (h : WR w R K xs) (hn : xs.length ≤ 10000000) (h5 : x.1.size ≤ 88) (h6 : 0 ≤ x.2.1 ∧ x.2.1 ≤ 2) :
 Calls Tryz.prog 50 #[.pointer (some ⟨R, 0, none⟩), .agg #[.string x.1, .int .i64 x.2.1, .bool x.2.2]] w (RetW R K (xs ++ encS x) w) := by
 obtain ⟨s, n, b⟩ := x
 dsimp only at h5 h6 ⊢
 obtain ⟨h6, h7⟩ := h6
 have l1 := encT_len s
 have l2 := (enc_len n).2
 unfold encS
 dsimp only
 obtain ⟨w0, hw0⟩ : ∃ w0, w0 = w.alloc (.cells #[.string s, .int .i64 n, .bool b] 49) := ⟨_, rfl⟩
 have hb0 : Below w.heap.size w w0 := by rw [hw0]; exact belA _ _
 have hm0 : MT 49 w0 w.heap.size [.string s, .int .i64 n, .bool b] := by rw [hw0]; exact MT.new w _ _
 obtain ⟨KB, hKB, hKM, hr0, hk0⟩ := h.box hb0 (M := w.heap.size) ⟨Nat.le_refl _, hm0.lt⟩
 have HM0 := Lib.hid hm0
 have HR0 := Lib.hid hr0
 have HK0 := Lib.hid hk0
 have HKB := Lib.hid hKB
 have HKM := Lib.hid hKM
 have HW0 := Lib.hid hw0
 have HBX := Lib.hid hb0
 have HKP := Lib.hid h.kept
 clear hm0 hr0 hk0 hKB hKM hw0 hb0 h
 have HKK : Hid (WK KB w0 w0) := Lib.hid (WK.refl _ _)
 go_enter Tryz.func50, Tryz.ntmps50
 go_upto_region 1 with fail
 rw [← HW0.out]
 have c0 : w0.cell? ⟨w.heap.size, 0, none⟩ = some (.string s) := HM0.out.cell 0
 go_wp2_with fail
 refine (wText_any R KB xs s w0 HR0.out (by omega) (by omega)).mono ?_
 rintro e w1 ⟨rfl, hr, hk⟩
 clear c0
 have HM1 := Lib.hid (hk.mt HKM.out HM0.out)
 have HK1 := Lib.hid (HKK.out.trans hk)
 have HR1 := Lib.hid hr
 clear hr hk HM0 HKK HR0
 have c1 : w1.cell? ⟨w.heap.size, 1, none⟩ = some (.int .i64 n) := HM1.out.cell 1
 go_wp2_with fail
 refine (wNum_any R KB (xs ++ encT s) n w1 HR1.out (by simp only [List.length_append]; omega) (by omega) (by omega)).mono ?_
 rintro e w2 ⟨rfl, hr, hk⟩
 clear c1
 have HM2 := Lib.hid (hk.mt HKM.out HM1.out)
 have HK2 := Lib.hid (HK1.out.trans hk)
 have HR2 := Lib.hid hr
 clear hr hk HM1 HK1 HR1
 have c2 : w2.cell? ⟨w.heap.size, 2, none⟩ = some (.bool b) := HM2.out.cell 2
 go_wp2_with fail
 refine (wFlag1_any R KB (xs ++ encT s ++ enc n) b w2 HR2.out (by simp only [List.length_append]; omega)).mono ?_
 rintro e w3 ⟨rfl, hr, hk⟩
 clear c2
 have HM3 := Lib.hid (hk.mt HKM.out HM2.out)
 have HK3 := Lib.hid (HK2.out.trans hk)
 have HR3 := Lib.hid hr
 clear hr hk HM2 HK2 HR2
 go_wp2_with fail
 go_end0
 exact ⟨rfl, by first | exact HR3.out.sub HKB.out | (have := HR3.out.sub HKB.out; simpa only [List.append_assoc] using this), HK0.out.trans (HK3.out.sub HKB.out)⟩

theorem wListS_any (R : Nat) (K : Nat → Prop) (xs : List UInt8) (A : Option Addr) (c : Nat) (l : List SB) (w : World) (h : WR w R K xs) (B : Nat) (hB : ∀ g, g < B → K g) (hsl : BL w B A l) (hn : xs.length ≤ 1000000) (hl : l.length ≤ 32) (hM : ∀ x ∈ l, x.1.size ≤ 88 ∧ (0 ≤ x.2.1 ∧ x.2.1 ≤ 2)) :
 Calls Tryz.prog 49 #[.pointer (some ⟨R, 0, none⟩), .slice A l.length c, .func (.func 50) #[.pointer (some ⟨R, 0, none⟩)] #[]] w (RetW R K (xs ++ (enc l.length ++ encG encS l)) w) := by
 have HLen : Hid (∀ k, (encG encS (l.take k)).length ≤ 32 * 120) := Lib.hid (fun k => Nat.le_trans (encG_len (P := fun x => x.1.size ≤ 88 ∧ (0 ≤ x.2.1 ∧ x.2.1 ≤ 2)) (f := encS) (M := 120) (fun x hx => by have a1 := encT_len x.1; have a2 := (enc_len x.2.1).2; have a3 := (enc_len (b2i x.2.2)).2; have a4 := hx.1; unfold encS; simp only [List.length_append]; omega) _ (fun x hx => hM x (List.mem_of_mem_take hx))) (by
  have : (l.take k).length ≤ l.length := by rw [List.length_take]; omega
  exact Nat.mul_le_mul (by omega) (Nat.le_refl _)))
 have l2 := (enc_len l.length).2
 have HM := Lib.hid hM
 have HB := Lib.hid hB
 have HS := Lib.hid hsl
 have HN := Lib.hid (wNum_any R K xs l.length w h (by omega) (by omega) (by omega))
 clear hM hB hsl h
 go_enter Tryz.func49, Tryz.ntmps49
 go_wp2_with fail
 refine HN.out.mono ?_
 rintro e w1 ⟨rfl, hr, hk⟩
 have HR1 := Lib.hid hr
 have HK1 := Lib.hid hk
 clear hr hk HN
 go_wp2_with fail
 go_loopg [14] l.length (fun g v wr => ∃ j : Nat, j + g = l.length ∧ v = .int .i64 j ∧ WR wr R K (xs ++ enc l.length ++ encG encS (l.take j)) ∧ WK K w wr)
 case atStart => exact ⟨0, by omega, rfl, by rw [List.take_zero]; show WR _ R K (xs ++ enc l.length ++ []); rw [List.append_nil]; exact HR1.out, HK1.out⟩
 case round =>
  obtain ⟨j, hjg, rfl, hr, hk⟩ := hrel
  have HR := Lib.hid hr
  have HK := Lib.hid hk
  have HG := Lib.hid hjg
  have hlen := HLen.out j
  clear hr hk HR1 HK1
  cases gk with
  | zero =>
    obtain rfl : j = l.length := by omega
    have HE : Hid (WR _ R K (xs ++ (enc l.length ++ encG encS l))) := Lib.hid (by have := HR.out; rw [List.take_length, List.append_assoc] at this; exact this)
    clear hjg HR hlen
    go_wp2_with fail
    go_end0
    exact ⟨rfl, HE.out, HK.out⟩
  | succ g =>
    have hlt : j < l.length := by omega
    have e3 : decide ((j : Int) < (l.length : Int)) = true := decide_eq_true (by omega)
    obtain ⟨x, hx⟩ : ∃ x, l[j]? = some x := ⟨_, List.getElem?_eq_getElem hlt⟩
    obtain ⟨b, o, hA, hbB, kk, kv, kz⟩ := BL.at_ ((HS.out.below (HK.out.below HB.out))) hx
    subst hA
    have j1 : (0 : Int) ≤ (j : Int) := by omega
    have j2 : (j : Int) < (l.length : Int) := by omega
    have HX := Lib.hid (encG_succ (f := encS) hx)
    have hxs := HM.out x (List.mem_of_getElem? hx)
    have HC : Hid (∀ w1, WR w1 R K (xs ++ enc l.length ++ encG encS (l.take j)) → Calls Tryz.prog 50 #[.pointer (some ⟨R, 0, none⟩), .agg #[.string x.1, .int .i64 x.2.1, .bool x.2.2]] w1 (RetW R K (xs ++ enc l.length ++ encG encS (l.take j) ++ encS x) w1)) := Lib.hid (fun w1 h1 => wSub_any R K _ x w1 h1 (by simp only [List.length_append]; omega) hxs.1 hxs.2)
    clear hx hjg hxs hlen
    go_wp2_with fail
    refine (HC.out _ (by first | exact HR.out | exact HR.out.below (belA _ _))).mono ?_
    rintro e w2 ⟨rfl, hr, hk⟩
    have HR2 := Lib.hid hr
    have HK2 : Hid (WK K w w2) := Lib.hid (HK.out.trans (by first | exact hk | exact (WK.of_below (belA _ _) HR.out.kept).trans hk))
    clear hr hk HR HK HC
    go_wp2_with fail
    go_roundg g
    case measure => omega
    case rel => exact ⟨j + 1, by have := HG.out; omega, by go_num, by rw [HX.out, ← List.append_assoc]; exact HR2.out, HK2.out⟩

theorem wListC_any (R : Nat) (K : Nat → Prop) (xs : List UInt8) (A : Option Addr) (c : Nat) (l : List Int) (w : World) (h : WR w R K xs) (B : Nat) (hB : ∀ g, g < B → K g) (hsl : IL w B A l) (hn : xs.length ≤ 1000000) (hl : l.length ≤ 32) (hM : ∀ x ∈ l, -9223372036854775808 ≤ x ∧ x ≤ 9223372036854775807) :
 Calls Tryz.prog 51 #[.pointer (some ⟨R, 0, none⟩), .slice A l.length c, .func (.func 45) #[.pointer (some ⟨R, 0, none⟩)] #[]] w (RetW R K (xs ++ (enc l.length ++ encG enc l)) w) := by
 have HLen : Hid (∀ k, (encG enc (l.take k)).length ≤ 32 * 120) := Lib.hid (fun k => Nat.le_trans (encG_len (P := fun x => -9223372036854775808 ≤ x ∧ x ≤ 9223372036854775807) (f := enc) (M := 120) (fun x hx => by have a2 := (enc_len x).2; omega) _ (fun x hx => hM x (List.mem_of_mem_take hx))) (by
  have : (l.take k).length ≤ l.length := by rw [List.length_take]; omega
  exact Nat.mul_le_mul (by omega) (Nat.le_refl _)))
 have l2 := (enc_len l.length).2
 have HM := Lib.hid hM
 have HB := Lib.hid hB
 have HS := Lib.hid hsl
 have HN := Lib.hid (wNum_any R K xs l.length w h (by omega) (by omega) (by omega))
 clear hM hB hsl h
 go_enter Tryz.func51, Tryz.ntmps51
 go_wp2_with fail
 refine HN.out.mono ?_
 rintro e w1 ⟨rfl, hr, hk⟩
 have HR1 := Lib.hid hr
 have HK1 := Lib.hid hk
 clear hr hk HN
 go_wp2_with fail
 go_loopg [14] l.length (fun g v wr => ∃ j : Nat, j + g = l.length ∧ v = .int .i64 j ∧ WR wr R K (xs ++ enc l.length ++ encG enc (l.take j)) ∧ WK K w wr)
 case atStart => exact ⟨0, by omega, rfl, by rw [List.take_zero]; show WR _ R K (xs ++ enc l.length ++ []); rw [List.append_nil]; exact HR1.out, HK1.out⟩
 case round =>
  obtain ⟨j, hjg, rfl, hr, hk⟩ := hrel
  have HR := Lib.hid hr
  have HK := Lib.hid hk
  have HG := Lib.hid hjg
  have hlen := HLen.out j
  clear hr hk HR1 HK1
  cases gk with
  | zero =>
    obtain rfl : j = l.length := by omega
    have HE : Hid (WR _ R K (xs ++ (enc l.length ++ encG enc l))) := Lib.hid (by have := HR.out; rw [List.take_length, List.append_assoc] at this; exact this)
    clear hjg HR hlen
    go_wp2_with fail
    go_end0
    exact ⟨rfl, HE.out, HK.out⟩
  | succ g =>
    have hlt : j < l.length := by omega
    have e3 : decide ((j : Int) < (l.length : Int)) = true := decide_eq_true (by omega)
    obtain ⟨x, hx⟩ : ∃ x, l[j]? = some x := ⟨_, List.getElem?_eq_getElem hlt⟩
    obtain ⟨b, o, hA, hbB, kk⟩ := IL.at_ ((HS.out.below (HK.out.below HB.out))) hx
    subst hA
    have j1 : (0 : Int) ≤ (j : Int) := by omega
    have j2 : (j : Int) < (l.length : Int) := by omega
    have HX := Lib.hid (encG_succ (f := enc) hx)
    have hxs := HM.out x (List.mem_of_getElem? hx)
    have HC : Hid (∀ w1, WR w1 R K (xs ++ enc l.length ++ encG enc (l.take j)) → Calls Tryz.prog 45 #[.pointer (some ⟨R, 0, none⟩), .int .i64 x] w1 (RetW R K (xs ++ enc l.length ++ encG enc (l.take j) ++ enc x) w1)) := Lib.hid (fun w1 h1 => wNum_any R K _ x w1 h1 (by simp only [List.length_append]; omega) hxs.1 hxs.2)
    clear hx hjg hxs hlen
    go_wp2_with fail
    refine (HC.out _ (by first | exact HR.out | exact HR.out.below (belA _ _))).mono ?_
    rintro e w2 ⟨rfl, hr, hk⟩
    have HR2 := Lib.hid hr
    have HK2 : Hid (WK K w w2) := Lib.hid (HK.out.trans (by first | exact hk | exact (WK.of_below (belA _ _) HR.out.kept).trans hk))
    clear hr hk HR HK HC
    go_wp2_with fail
    go_roundg g
    case measure => omega
    case rel => exact ⟨j + 1, by have := HG.out; omega, by go_num, by rw [HX.out, ← List.append_assoc]; exact HR2.out, HK2.out⟩

theorem wListF_any (R : Nat) (K : Nat → Prop) (xs : List UInt8) (A : Option Addr) (c : Nat) (l : List ByteArray) (w : World) (h : WR w R K xs) (B : Nat) (hB : ∀ g, g < B → K g) (hsl : SL w B A l) (hn : xs.length ≤ 1000000) (hl : l.length ≤ 32) (hM : ∀ x ∈ l, x.size ≤ 88) :
 Calls Tryz.prog 52 #[.pointer (some ⟨R, 0, none⟩), .slice A l.length c, .func (.func 23) #[.pointer (some ⟨R, 0, none⟩)] #[]] w (RetW R K (xs ++ (enc l.length ++ encG encT l)) w) := by
 have HLen : Hid (∀ k, (encG encT (l.take k)).length ≤ 32 * 120) := Lib.hid (fun k => Nat.le_trans (encG_len (P := fun x => x.size ≤ 88) (f := encT) (M := 120) (fun x hx => by have a2 := encT_len x; omega) _ (fun x hx => hM x (List.mem_of_mem_take hx))) (by
  have : (l.take k).length ≤ l.length := by rw [List.length_take]; omega
  exact Nat.mul_le_mul (by omega) (Nat.le_refl _)))
 have l2 := (enc_len l.length).2
 have HM := Lib.hid hM
 have HB := Lib.hid hB
 have HS := Lib.hid hsl
 have HN := Lib.hid (wNum_any R K xs l.length w h (by omega) (by omega) (by omega))
 clear hM hB hsl h
 go_enter Tryz.func52, Tryz.ntmps52
 go_wp2_with fail
 refine HN.out.mono ?_
 rintro e w1 ⟨rfl, hr, hk⟩
 have HR1 := Lib.hid hr
 have HK1 := Lib.hid hk
 clear hr hk HN
 go_wp2_with fail
 go_loopg [14] l.length (fun g v wr => ∃ j : Nat, j + g = l.length ∧ v = .int .i64 j ∧ WR wr R K (xs ++ enc l.length ++ encG encT (l.take j)) ∧ WK K w wr)
 case atStart => exact ⟨0, by omega, rfl, by rw [List.take_zero]; show WR _ R K (xs ++ enc l.length ++ []); rw [List.append_nil]; exact HR1.out, HK1.out⟩
 case round =>
  obtain ⟨j, hjg, rfl, hr, hk⟩ := hrel
  have HR := Lib.hid hr
  have HK := Lib.hid hk
  have HG := Lib.hid hjg
  have hlen := HLen.out j
  clear hr hk HR1 HK1
  cases gk with
  | zero =>
    obtain rfl : j = l.length := by omega
    have HE : Hid (WR _ R K (xs ++ (enc l.length ++ encG encT l))) := Lib.hid (by have := HR.out; rw [List.take_length, List.append_assoc] at this; exact this)
    clear hjg HR hlen
    go_wp2_with fail
    go_end0
    exact ⟨rfl, HE.out, HK.out⟩
  | succ g =>
    have hlt : j < l.length := by omega
    have e3 : decide ((j : Int) < (l.length : Int)) = true := decide_eq_true (by omega)
    obtain ⟨x, hx⟩ : ∃ x, l[j]? = some x := ⟨_, List.getElem?_eq_getElem hlt⟩
    obtain ⟨b, o, hA, hbB, kk⟩ := SL.at_ ((HS.out.below (HK.out.below HB.out))) hx
    subst hA
    have j1 : (0 : Int) ≤ (j : Int) := by omega
    have j2 : (j : Int) < (l.length : Int) := by omega
    have HX := Lib.hid (encG_succ (f := encT) hx)
    have hxs := HM.out x (List.mem_of_getElem? hx)
    have HC : Hid (∀ w1, WR w1 R K (xs ++ enc l.length ++ encG encT (l.take j)) → Calls Tryz.prog 23 #[.pointer (some ⟨R, 0, none⟩), .string x] w1 (RetW R K (xs ++ enc l.length ++ encG encT (l.take j) ++ encT x) w1)) := Lib.hid (fun w1 h1 => wText_any R K _ x w1 h1 (by simp only [List.length_append]; omega) (by omega))
    clear hx hjg hxs hlen
    go_wp2_with fail
    refine (HC.out _ (by first | exact HR.out | exact HR.out.below (belA _ _))).mono ?_
    rintro e w2 ⟨rfl, hr, hk⟩
    have HR2 := Lib.hid hr
    have HK2 : Hid (WK K w w2) := Lib.hid (HK.out.trans (by first | exact hk | exact (WK.of_below (belA _ _) HR.out.kept).trans hk))
    clear hr hk HR HK HC
    go_wp2_with fail
    go_roundg g
    case measure => omega
    case rel => exact ⟨j + 1, by have := HG.out; omega, by go_num, by rw [HX.out, ← List.append_assoc]; exact HR2.out, HK2.out⟩

theorem msg_sz {m : Msg} (h : checkR m = 0) : m.topic.size ≤ 100000 ∧ m.payload.size ≤ 100000 ∧ m.frm.size ≤ 100000 ∧ m.props.length ≤ 20 ∧ ∀ x ∈ m.props, x.1.size ≤ 100000 ∧ x.2.size ≤ 100000 := by
 obtain ⟨h1, h2, h3, h4⟩ := checkR_parts h
 obtain ⟨h5, _, h6⟩ := propsR_parts h4
 refine ⟨by omega, by omega, by omega, by omega, fun x hx => ?_⟩
 obtain ⟨h7, h8⟩ := h6 x hx
 unfold keyR at h7
 simp only [Bool.and_eq_true, decide_eq_true_eq] at h7
 omega
theorem wMsgV_any (R : Nat) (K : Nat → Prop) (xs : List UInt8) (m : Msg) (A : Option Addr) (c : Nat) (w : World) (h : WR w R K xs) (hn : xs.length ≤ 100000000) (hB0 : ∃ B, (∀ g, g < B → K g) ∧ PL w B A m.props) (hc : checkR m = 0) :
 Calls Tryz.prog 48 #[.pointer (some ⟨R, 0, none⟩), msgV m A c] w (RetW R K (xs ++ encM m) w) :=
 wMsg_any R K xs m A c w h hn hB0 (checkR_fits hc) (msg_sz hc) (by have := encM_small hc; omega)

theorem wConn_false (R : Nat) (K : Nat → Prop) (xs : List UInt8) (p : Pkt) (a : PA) (w : World) (h : WR w R K xs) (hn : xs.length ≤ 1000000) (hB : ∃ B, (∀ g, g < B → K g) ∧ PL w B a.v p.wmsg.props) (hc : connR p = 0) (hws : p.wset = false) :
 Calls Tryz.prog 46 #[.pointer (some ⟨R, 0, none⟩), .agg (pkC p a).toArray] w (RetW R K (xs ++ encConn p) w) := by
 obtain ⟨a1, a2, a3, a4, a5, a6, a6w⟩ := connR_parts hc
 have l1 := encT_len p.client
 have l2 := encT_len p.user
 have l3 := (enc_len (fl2 p.clean false)).2
 have l4 := (enc_len p.keep).2
 have l5 := (enc_len p.expiry).2
 have l6 := (enc_len p.window).2
 have l7 := (enc_len p.wdelay).2
 have HWS := Lib.hid hws
 obtain ⟨B, hB1, hB2⟩ := hB
 obtain ⟨w0, hw0⟩ : ∃ w0, w0 = w.alloc (.cells (pkC p a).toArray 38) := ⟨_, rfl⟩
 have hb0 : Below w.heap.size w w0 := by rw [hw0]; exact belA _ _
 have hm0 : MT 38 w0 w.heap.size (pkC p a) := by rw [hw0]; exact MT.new w _ _
 obtain ⟨KB, hKB, hKM, hr0, hk0⟩ := h.box hb0 (M := w.heap.size) ⟨Nat.le_refl _, hm0.lt⟩
 have HM0 := Lib.hid hm0
 have HR0 := Lib.hid hr0
 have HK0 := Lib.hid hk0
 have HKB := Lib.hid hKB
 have HKM := Lib.hid hKM
 have HW0 := Lib.hid hw0
 have HBX := Lib.hid hb0
 have HKP := Lib.hid h.kept
 have HBB : Hid (∀ wx, WK KB w0 wx → ∃ B, (∀ g, g < B → KB g) ∧ PL wx B a.v p.wmsg.props) := Lib.hid (fun wx hx => ⟨B, fun g hg => hKB g (hB1 g hg), GL.below (GL.below hB2 (hk0.below hB1)) (hx.below (fun g hg => hKB g (hB1 g hg)))⟩)
 unfold encConn
 simp only [hws, Bool.false_eq_true, if_false, List.append_nil]
 clear hws a6 a6w hB1 hB2 hc
 clear hm0 hr0 hk0 hKB hKM hw0 hb0 h
 have HKK : Hid (WK KB w0 w0) := Lib.hid (WK.refl _ _)
 go_enter Tryz.func46, Tryz.ntmps46
 go_upto_region 1 with fail
 rw [← HW0.out]
 have c12 : w0.cell? ⟨w.heap.size, 12, none⟩ = some (.string p.client) := HM0.out.cell 12
 go_wp2_with fail
 refine (wText_any R KB xs p.client w0 HR0.out (by omega) (by omega)).mono ?_
 rintro e w1 ⟨rfl, hr, hk⟩
 clear c12
 have HM1 := Lib.hid (hk.mt HKM.out HM0.out)
 have HK1 := Lib.hid (HKK.out.trans hk)
 have HR1 := Lib.hid hr
 clear hr hk HM0 HKK HR0
 have c13 : w1.cell? ⟨w.heap.size, 13, none⟩ = some (.string p.user) := HM1.out.cell 13
 go_wp2_with fail
 refine (wText_any R KB (xs ++ encT p.client) p.user w1 HR1.out (by simp only [List.length_append]; omega) (by omega)).mono ?_
 rintro e w2 ⟨rfl, hr, hk⟩
 clear c13
 have HM2 := Lib.hid (hk.mt HKM.out HM1.out)
 have HK2 := Lib.hid (HK1.out.trans hk)
 have HR2 := Lib.hid hr
 clear hr hk HM1 HK1 HR1
 have c14 : w2.cell? ⟨w.heap.size, 14, none⟩ = some (.bool p.clean) := HM2.out.cell 14
 have c18 : w2.cell? ⟨w.heap.size, 18, none⟩ = some (.bool false) := (by have := HM2.out.cell 18; rw [show (pkC p a)[18]? = some (.bool p.wset) from rfl, HWS.out] at this; exact this)
 go_wp2_with fail
 refine (wFlag2_any R KB (xs ++ encT p.client ++ encT p.user) p.clean false w2 HR2.out (by simp only [List.length_append]; omega)).mono ?_
 rintro e w3 ⟨rfl, hr, hk⟩
 clear c14 c18
 have HM3 := Lib.hid (hk.mt HKM.out HM2.out)
 have HK3 := Lib.hid (HK2.out.trans hk)
 have HR3 := Lib.hid hr
 clear hr hk HM2 HK2 HR2
 have c15 : w3.cell? ⟨w.heap.size, 15, none⟩ = some (.int .i64 p.keep) := HM3.out.cell 15
 go_wp2_with fail
 refine (wNum_any R KB (xs ++ encT p.client ++ encT p.user ++ enc (fl2 p.clean false)) p.keep w3 HR3.out (by simp only [List.length_append]; omega) (by omega) (by omega)).mono ?_
 rintro e w4 ⟨rfl, hr, hk⟩
 clear c15
 have HM4 := Lib.hid (hk.mt HKM.out HM3.out)
 have HK4 := Lib.hid (HK3.out.trans hk)
 have HR4 := Lib.hid hr
 clear hr hk HM3 HK3 HR3
 have c16 : w4.cell? ⟨w.heap.size, 16, none⟩ = some (.int .i64 p.expiry) := HM4.out.cell 16
 go_wp2_with fail
 refine (wNum_any R KB (xs ++ encT p.client ++ encT p.user ++ enc (fl2 p.clean false) ++ enc p.keep) p.expiry w4 HR4.out (by simp only [List.length_append]; omega) (by omega) (by omega)).mono ?_
 rintro e w5 ⟨rfl, hr, hk⟩
 clear c16
 have HM5 := Lib.hid (hk.mt HKM.out HM4.out)
 have HK5 := Lib.hid (HK4.out.trans hk)
 have HR5 := Lib.hid hr
 clear hr hk HM4 HK4 HR4
 have c17 : w5.cell? ⟨w.heap.size, 17, none⟩ = some (.int .i64 p.window) := HM5.out.cell 17
 go_wp2_with fail
 refine (wNum_any R KB (xs ++ encT p.client ++ encT p.user ++ enc (fl2 p.clean false) ++ enc p.keep ++ enc p.expiry) p.window w5 HR5.out (by simp only [List.length_append]; omega) (by omega) (by omega)).mono ?_
 rintro e w6 ⟨rfl, hr, hk⟩
 clear c17
 have HM6 := Lib.hid (hk.mt HKM.out HM5.out)
 have HK6 := Lib.hid (HK5.out.trans hk)
 have HR6 := Lib.hid hr
 clear hr hk HM5 HK5 HR5
 have c18 : w6.cell? ⟨w.heap.size, 18, none⟩ = some (.bool false) := by have := HM6.out.cell 18; rw [show (pkC p a)[18]? = some (.bool p.wset) from rfl, HWS.out] at this; exact this
 go_wp2_with fail
 go_end0
 exact ⟨rfl, by first | exact HR6.out.sub HKB.out | (have := HR6.out.sub HKB.out; simpa only [List.append_assoc] using this), HK0.out.trans (HK6.out.sub HKB.out)⟩

theorem wConn_true (R : Nat) (K : Nat → Prop) (xs : List UInt8) (p : Pkt) (a : PA) (w : World) (h : WR w R K xs) (hn : xs.length ≤ 1000000) (hB : ∃ B, (∀ g, g < B → K g) ∧ PL w B a.v p.wmsg.props) (hc : connR p = 0) (hws : p.wset = true) :
 Calls Tryz.prog 46 #[.pointer (some ⟨R, 0, none⟩), .agg (pkC p a).toArray] w (RetW R K (xs ++ encConn p) w) := by
 obtain ⟨a1, a2, a3, a4, a5, a6, a6w⟩ := connR_parts hc
 have l1 := encT_len p.client
 have l2 := encT_len p.user
 have l3 := (enc_len (fl2 p.clean true)).2
 have l4 := (enc_len p.keep).2
 have l5 := (enc_len p.expiry).2
 have l6 := (enc_len p.window).2
 have l7 := (enc_len p.wdelay).2
 have HWS := Lib.hid hws
 obtain ⟨B, hB1, hB2⟩ := hB
 obtain ⟨w0, hw0⟩ : ∃ w0, w0 = w.alloc (.cells (pkC p a).toArray 38) := ⟨_, rfl⟩
 have hb0 : Below w.heap.size w w0 := by rw [hw0]; exact belA _ _
 have hm0 : MT 38 w0 w.heap.size (pkC p a) := by rw [hw0]; exact MT.new w _ _
 obtain ⟨KB, hKB, hKM, hr0, hk0⟩ := h.box hb0 (M := w.heap.size) ⟨Nat.le_refl _, hm0.lt⟩
 have HM0 := Lib.hid hm0
 have HR0 := Lib.hid hr0
 have HK0 := Lib.hid hk0
 have HKB := Lib.hid hKB
 have HKM := Lib.hid hKM
 have HW0 := Lib.hid hw0
 have HBX := Lib.hid hb0
 have HKP := Lib.hid h.kept
 have HBB : Hid (∀ wx, WK KB w0 wx → ∃ B, (∀ g, g < B → KB g) ∧ PL wx B a.v p.wmsg.props) := Lib.hid (fun wx hx => ⟨B, fun g hg => hKB g (hB1 g hg), GL.below (GL.below hB2 (hk0.below hB1)) (hx.below (fun g hg => hKB g (hB1 g hg)))⟩)
 unfold encConn
 simp only [hws, if_true]
 have hcm := (a6w hws).2
 obtain ⟨a7, a8⟩ := (a6w hws).1
 have HCM := Lib.hid hcm
 clear hcm
 clear hws a6 a6w hB1 hB2 hc
 clear hm0 hr0 hk0 hKB hKM hw0 hb0 h
 have HKK : Hid (WK KB w0 w0) := Lib.hid (WK.refl _ _)
 go_enter Tryz.func46, Tryz.ntmps46
 go_upto_region 1 with fail
 rw [← HW0.out]
 have c12 : w0.cell? ⟨w.heap.size, 12, none⟩ = some (.string p.client) := HM0.out.cell 12
 go_wp2_with fail
 refine (wText_any R KB xs p.client w0 HR0.out (by omega) (by omega)).mono ?_
 rintro e w1 ⟨rfl, hr, hk⟩
 clear c12
 have HM1 := Lib.hid (hk.mt HKM.out HM0.out)
 have HK1 := Lib.hid (HKK.out.trans hk)
 have HR1 := Lib.hid hr
 clear hr hk HM0 HKK HR0
 have c13 : w1.cell? ⟨w.heap.size, 13, none⟩ = some (.string p.user) := HM1.out.cell 13
 go_wp2_with fail
 refine (wText_any R KB (xs ++ encT p.client) p.user w1 HR1.out (by simp only [List.length_append]; omega) (by omega)).mono ?_
 rintro e w2 ⟨rfl, hr, hk⟩
 clear c13
 have HM2 := Lib.hid (hk.mt HKM.out HM1.out)
 have HK2 := Lib.hid (HK1.out.trans hk)
 have HR2 := Lib.hid hr
 clear hr hk HM1 HK1 HR1
 have c14 : w2.cell? ⟨w.heap.size, 14, none⟩ = some (.bool p.clean) := HM2.out.cell 14
 have c18 : w2.cell? ⟨w.heap.size, 18, none⟩ = some (.bool true) := (by have := HM2.out.cell 18; rw [show (pkC p a)[18]? = some (.bool p.wset) from rfl, HWS.out] at this; exact this)
 go_wp2_with fail
 refine (wFlag2_any R KB (xs ++ encT p.client ++ encT p.user) p.clean true w2 HR2.out (by simp only [List.length_append]; omega)).mono ?_
 rintro e w3 ⟨rfl, hr, hk⟩
 clear c14 c18
 have HM3 := Lib.hid (hk.mt HKM.out HM2.out)
 have HK3 := Lib.hid (HK2.out.trans hk)
 have HR3 := Lib.hid hr
 clear hr hk HM2 HK2 HR2
 have c15 : w3.cell? ⟨w.heap.size, 15, none⟩ = some (.int .i64 p.keep) := HM3.out.cell 15
 go_wp2_with fail
 refine (wNum_any R KB (xs ++ encT p.client ++ encT p.user ++ enc (fl2 p.clean true)) p.keep w3 HR3.out (by simp only [List.length_append]; omega) (by omega) (by omega)).mono ?_
 rintro e w4 ⟨rfl, hr, hk⟩
 clear c15
 have HM4 := Lib.hid (hk.mt HKM.out HM3.out)
 have HK4 := Lib.hid (HK3.out.trans hk)
 have HR4 := Lib.hid hr
 clear hr hk HM3 HK3 HR3
 have c16 : w4.cell? ⟨w.heap.size, 16, none⟩ = some (.int .i64 p.expiry) := HM4.out.cell 16
 go_wp2_with fail
 refine (wNum_any R KB (xs ++ encT p.client ++ encT p.user ++ enc (fl2 p.clean true) ++ enc p.keep) p.expiry w4 HR4.out (by simp only [List.length_append]; omega) (by omega) (by omega)).mono ?_
 rintro e w5 ⟨rfl, hr, hk⟩
 clear c16
 have HM5 := Lib.hid (hk.mt HKM.out HM4.out)
 have HK5 := Lib.hid (HK4.out.trans hk)
 have HR5 := Lib.hid hr
 clear hr hk HM4 HK4 HR4
 have c17 : w5.cell? ⟨w.heap.size, 17, none⟩ = some (.int .i64 p.window) := HM5.out.cell 17
 go_wp2_with fail
 refine (wNum_any R KB (xs ++ encT p.client ++ encT p.user ++ enc (fl2 p.clean true) ++ enc p.keep ++ enc p.expiry) p.window w5 HR5.out (by simp only [List.length_append]; omega) (by omega) (by omega)).mono ?_
 rintro e w6 ⟨rfl, hr, hk⟩
 clear c17
 have HM6 := Lib.hid (hk.mt HKM.out HM5.out)
 have HK6 := Lib.hid (HK5.out.trans hk)
 have HR6 := Lib.hid hr
 clear hr hk HM5 HK5 HR5
 have c18 : w6.cell? ⟨w.heap.size, 18, none⟩ = some (.bool true) := by have := HM6.out.cell 18; rw [show (pkC p a)[18]? = some (.bool p.wset) from rfl, HWS.out] at this; exact this
 have c19 : w6.cell? ⟨w.heap.size, 19, none⟩ = some (.int .i64 p.wdelay) := HM6.out.cell 19
 go_wp2_with fail
 refine (wNum_any R KB (xs ++ encT p.client ++ encT p.user ++ enc (fl2 p.clean true) ++ enc p.keep ++ enc p.expiry ++ enc p.window) p.wdelay w6 HR6.out (by simp only [List.length_append]; omega) (by omega) (by omega)).mono ?_
 rintro e w7 ⟨rfl, hr, hk⟩
 clear c19
 have HM7 := Lib.hid (hk.mt HKM.out HM6.out)
 have HK7 := Lib.hid (HK6.out.trans hk)
 have HR7 := Lib.hid hr
 clear hr hk HM6 HK6 HR6 c18
 go_wp2_with (refine wpList_load_part (by rfl) 31 _ rfl w.heap.size 20 9 rfl 38 (pkC p a) (0, 0) _ HM7.out Tryz.underlying31 rfl info26 (by show 20 + 9 ≤ 34; decide) ?_)
 refine (wMsgV_any R KB (xs ++ encT p.client ++ encT p.user ++ enc (fl2 p.clean true) ++ enc p.keep ++ enc p.expiry ++ enc p.window ++ enc p.wdelay) p.wmsg a.v a.vc w7 HR7.out (by simp only [List.length_append]; omega) (HBB.out _ HK7.out) HCM.out).mono ?_
 rintro e w8 ⟨rfl, hr, hk⟩
 have HM8 := Lib.hid (hk.mt HKM.out HM7.out)
 have HK8 := Lib.hid (HK7.out.trans hk)
 have HR8 := Lib.hid hr
 clear hr hk HM7 HK7 HR7
 go_wp2_with fail
 go_end0
 exact ⟨rfl, by first | exact HR8.out.sub HKB.out | (have := HR8.out.sub HKB.out; simpa only [List.append_assoc] using this), HK0.out.trans (HK8.out.sub HKB.out)⟩

end Go.Proofs.YtdkegoaflabjoaaGreatDoor
