/-
What the small checks of packet answer. Conditions: texts fit a slice; the tables of package unicode/utf8 are there.
What checkWill, checkConnect, checkConnack, checkPublish and checkList of packet answer. Conditions: the packets read as data; texts fit a slice; the tables of package unicode/utf8 are there.
What checkConnect, checkConnack and checkPublish of packet answer. Conditions: the packets read as data; texts fit a slice; the tables of package unicode/utf8 are there.
What checkList of packet answers at lists of subscriptions, filters and codes: the first error. Conditions: the lists read as data; texts fit a slice; the tables of package unicode/utf8 are there.
-/
import Derived.Test.YtdkegoaflabjoaaGreatDoorMbx2
import Derived.Test.YtdkegoaflabjoaaGreatDoorCheck
import Derived.Test.YtdkegoaflabjoaaGreatDoorSame
import Derived.Test.YtdkegoaflabjoaaGreatDoorSamQ
set_option maxHeartbeats 4000000
set_option maxRecDepth 20000
namespace Go.Proofs.YtdkegoaflabjoaaGreatDoor
open Go.RowKit

theorem reti {a b : Int} (h : a = b) : Ending.returned (.int .i64 a) = .returned (.int .i64 b) := by rw [h]
theorem bcell {W w1 : World} (hb : Below W.heap.size W w1) : (∀ b o, b < W.heap.size → w1.cell? ⟨b, o, none⟩ = W.cell? ⟨b, o, none⟩) ∧ (∀ b o, b < W.heap.size → w1.frozen? ⟨b, o, none⟩ = W.frozen? ⟨b, o, none⟩) :=
 ⟨fun b o h => hb.cell (p := ⟨b, o, none⟩) h, fun b o h => hb.frozen (p := ⟨b, o, none⟩) h⟩
def within3 (n first last : Int) : Bool := decide (first ≤ n) && decide (n ≤ last)
theorem within3_any (n first last : Int) (w : World) : Calls Tryz.prog 32 #[.int .i64 n, .int .i64 first, .int .i64 last] w fun e w' => e = .returned (.bool (within3 n first last)) ∧ w = w' := by
 by_cases h : first ≤ n
 · have q : decide (first ≤ n) = true := decide_eq_true h
   have HV : Hid (within3 n first last = decide (n ≤ last)) := Lib.hid (by unfold within3; rw [q]; rfl)
   clear h
   go_enter Tryz.func32, Tryz.ntmps32
   go_wp2
   go_ret
   exact ⟨retb HV.out.symm, rfl⟩
 · have q : decide (first ≤ n) = false := decide_eq_false h
   have HV : Hid (within3 n first last = false) := Lib.hid (by unfold within3; rw [q]; rfl)
   clear h
   go_enter Tryz.func32, Tryz.ntmps32
   go_wp2
   go_ret
   exact ⟨retb HV.out.symm, rfl⟩
theorem w3_yes {n first last : Int} (h : ¬ (n < first ∨ last < n)) : within3 n first last = true := by unfold within3; simp; omega
theorem w3_no {n first last : Int} (h : n < first ∨ last < n) : within3 n first last = false := by unfold within3; rw [Bool.eq_false_iff]; simp; omega
theorem checkID_any (n : Int) (w : World) : Calls Tryz.prog 38 #[.int .i64 n] w fun e w' => e = .returned (.int .i64 (idR n)) ∧ w = w' := by
 have C := fun w => within3_any n 1 65535 w
 by_cases h : n < 1 ∨ 65535 < n
 · have HV : Hid (((idR n : Nat) : Int) = 15) := Lib.hid (by unfold idR; rw [if_pos h]; rfl)
   rw [w3_no h] at C
   have HC := Lib.hid C
   clear h C
   go_enter Tryz.func38, Tryz.ntmps38
   go_wp2_with (go_at_call 32; refine (HC.out _).mono ?_; rintro e w' ⟨rfl, rfl⟩)
   go_ret
   exact ⟨reti HV.out.symm, rfl⟩
 · have HV : Hid (((idR n : Nat) : Int) = 0) := Lib.hid (by unfold idR; rw [if_neg h]; rfl)
   rw [w3_yes h] at C
   have HC := Lib.hid C
   clear h C
   go_enter Tryz.func38, Tryz.ntmps38
   go_wp2_with (go_at_call 32; refine (HC.out _).mono ?_; rintro e w' ⟨rfl, rfl⟩)
   go_ret
   exact ⟨reti HV.out.symm, rfl⟩
theorem checkCode_any (n : Int) (w : World) : Calls Tryz.prog 44 #[.int .i64 n] w fun e w' => e = .returned (.int .i64 (codR n)) ∧ w = w' := by
 have C := fun w => within3_any n 0 29 w
 by_cases h : n < 0 ∨ 29 < n
 · have HV : Hid (((codR n : Nat) : Int) = 1) := Lib.hid (by unfold codR; rw [if_pos h]; rfl)
   rw [w3_no h] at C
   have HC := Lib.hid C
   clear h C
   go_enter Tryz.func44, Tryz.ntmps44
   go_wp2_with (go_at_call 32; refine (HC.out _).mono ?_; rintro e w' ⟨rfl, rfl⟩)
   go_ret
   exact ⟨reti HV.out.symm, rfl⟩
 · have HV : Hid (((codR n : Nat) : Int) = 0) := Lib.hid (by unfold codR; rw [if_neg h]; rfl)
   rw [w3_yes h] at C
   have HC := Lib.hid C
   clear h C
   go_enter Tryz.func44, Tryz.ntmps44
   go_wp2_with (go_at_call 32; refine (HC.out _).mono ?_; rintro e w' ⟨rfl, rfl⟩)
   go_ret
   exact ⟨reti HV.out.symm, rfl⟩
theorem hasSh_any (s : ByteArray) (w : World) : Calls Tryz.prog 79 #[.string s, .string ⟨#[36, 115, 104, 97, 114, 101, 47]⟩] w fun e w' => e = .returned (.bool (hasSh s)) ∧ w = w' :=
 (Tryz.strings_HasPrefix s ⟨#[36, 115, 104, 97, 114, 101, 47]⟩ w).mono fun _ _ h => ⟨h.1, h.2.symm⟩
theorem wanted_any (s : ByteArray) (w : World) (hw : S1.Okw w) (hz : s.size ≤ 140737488355328) : Calls Tryz.prog 78 #[.string s] w fun e w' => e = .returned (.bool (wantedR s)) ∧ Below w.heap.size w w' := by
 have C1 := fun w => hasSh_any s w
 have C2 := S1.tShared_any s w hw hz
 have C3 := S1.tFilter_any s w hw
 cases h : hasSh s with
 | true =>
   rw [h] at C1
   have HV : Hid (wantedR s = shOkB s) := Lib.hid (by unfold wantedR; rw [h]; rfl)
   unfold S1.shRet at C2
   have e3 : S1.shOk (S1.dl s) = shOkB s := rfl
   rw [e3] at C2
   generalize S1.bs (S1.shG (S1.dl s)) = g at C2
   generalize S1.bs (S1.shF (S1.dl s)) = f at C2
   generalize shOkB s = o at C2 HV
   have H1 := Lib.hid C1
   have H2 := Lib.hid C2
   clear C1 C2 C3 h e3 hw hz
   go_enter Tryz.func78, Tryz.ntmps78
   go_wp2_with (first | (go_at_call 79; refine (H1.out _).mono ?_; rintro e w' ⟨rfl, rfl⟩) | (go_at_call 104; refine H2.out.mono ?_; rintro e w' ⟨rfl, hb⟩; have HB := Lib.hid hb; clear hb))
   go_ret
   exact ⟨retb HV.out.symm, HB.out⟩
 | false =>
   rw [h] at C1
   have HV : Hid (wantedR s = S1.T.filterL (S1.dl s)) := Lib.hid (by unfold wantedR; rw [h]; rfl)
   generalize S1.T.filterL (S1.dl s) = o at C3 HV
   have H1 := Lib.hid C1
   have H3 := Lib.hid C3
   clear C1 C2 C3 h hw hz
   go_enter Tryz.func78, Tryz.ntmps78
   go_wp2_with (first | (go_at_call 79; refine (H1.out _).mono ?_; rintro e w' ⟨rfl, rfl⟩) | (go_at_call 105; refine H3.out.mono ?_; rintro e w' ⟨rfl, hb⟩; have HB := Lib.hid hb; clear hb))
   go_ret
   exact ⟨retb HV.out.symm, HB.out⟩
theorem checkFilter_any (s : ByteArray) (w : World) (hw : S1.Okw w) (hz : s.size ≤ 140737488355328) : Calls Tryz.prog 42 #[.string s] w fun e w' => e = .returned (.int .i64 (filR s)) ∧ Below w.heap.size w w' := by
 have C := wanted_any s w hw hz
 have HV : Hid (((filR s : Nat) : Int) = if wantedR s = false then 13 else 0) := Lib.hid (by unfold filR; split <;> rfl)
 cases h : wantedR s with
 | true =>
   rw [h] at C HV
   have H := Lib.hid C
   clear C h hw hz
   go_enter Tryz.func42, Tryz.ntmps42
   go_wp2_with (go_at_call 78; refine H.out.mono ?_; rintro e w' ⟨rfl, hb⟩; have HB := Lib.hid hb; clear hb)
   go_ret
   exact ⟨reti HV.out.symm, HB.out⟩
 | false =>
   rw [h] at C HV
   have H := Lib.hid C
   clear C h hw hz
   go_enter Tryz.func42, Tryz.ntmps42
   go_wp2_with (go_at_call 78; refine H.out.mono ?_; rintro e w' ⟨rfl, hb⟩; have HB := Lib.hid hb; clear hb)
   go_ret
   exact ⟨reti HV.out.symm, HB.out⟩
theorem checkSub_any (x : SB) (w : World) (hw : S1.Okw w) (hz : x.1.size ≤ 140737488355328) : Calls Tryz.prog 40 #[.agg #[.string x.1, .int .i64 x.2.1, .bool x.2.2]] w fun e w' => e = .returned (.int .i64 (subR x)) ∧ Below w.heap.size w w' := by
 obtain ⟨s, l, nl⟩ := x
 dsimp only at hz ⊢
 have hb0 : Below w.heap.size w (w.alloc (.cells #[.string s, .int .i64 l, .bool nl] 49)) := belA _ _
 have C := wanted_any s (w.alloc (.cells #[.string s, .int .i64 l, .bool nl] 49)) (hw.step hb0) hz
 have C2 := fun w => within3_any l 0 2 w
 have C3 := fun w => hasSh_any s w
 have HB0 := Lib.hid hb0
 clear hw hz hb0
 have H3 := Lib.hid C3
 clear C3
 cases h : wantedR s with
 | false =>
   have HV : Hid (((subR (s, l, nl) : Nat) : Int) = 13) := Lib.hid (by unfold subR; rw [if_pos h]; rfl)
   rw [h] at C
   have H := Lib.hid C
   clear C C2 h
   go_enter Tryz.func40, Tryz.ntmps40
   go_wp2_with (go_at_call 78; refine H.out.mono ?_; rintro e w' ⟨rfl, hb⟩; have HB := Lib.hid (stepB HB0.out hb); clear hb)
   go_ret
   exact ⟨reti HV.out.symm, HB.out⟩
 | true =>
   rw [h] at C
   have H := Lib.hid C
   clear C
   by_cases hl : l < 0 ∨ 2 < l
   · have HV : Hid (((subR (s, l, nl) : Nat) : Int) = 14) := Lib.hid (by unfold subR; rw [if_neg (by rw [h]; decide), if_pos hl]; rfl)
     rw [w3_no hl] at C2
     have H2 := Lib.hid C2
     clear C2 h hl
     go_enter Tryz.func40, Tryz.ntmps40
     go_wp2_with (first | (go_at_call 78; refine H.out.mono ?_; rintro e w' ⟨rfl, hb⟩; obtain ⟨hc, hf⟩ := bcell hb; have HB := Lib.hid (stepB HB0.out hb); clear hb) | (go_at_call 32; refine (H2.out _).mono ?_; rintro e w' ⟨rfl, rfl⟩))
     go_ret
     exact ⟨reti HV.out.symm, HB.out⟩
   · have HV : Hid (((subR (s, l, nl) : Nat) : Int) = if nl = true ∧ hasSh s = true then 28 else 0) := Lib.hid (by unfold subR; rw [if_neg (by rw [h]; decide), if_neg hl]; split <;> rfl)
     rw [w3_yes hl] at C2
     have H2 := Lib.hid C2
     clear C2 h hl
     generalize hasSh s = sh at H3 HV
     cases nl
     · go_enter Tryz.func40, Tryz.ntmps40
       go_wp2_with (first | (go_at_call 78; refine H.out.mono ?_; rintro e w' ⟨rfl, hb⟩; obtain ⟨hc, hf⟩ := bcell hb; have HB := Lib.hid (stepB HB0.out hb); clear hb) | (go_at_call 32; refine (H2.out _).mono ?_; rintro e w' ⟨rfl, rfl⟩))
       go_ret
       exact ⟨reti (by rw [HV.out]; simp), HB.out⟩
     · cases sh
       all_goals
        go_enter Tryz.func40, Tryz.ntmps40
        go_wp2_with (first | (go_at_call 78; refine H.out.mono ?_; rintro e w' ⟨rfl, hb⟩; obtain ⟨hc, hf⟩ := bcell hb; have HB := Lib.hid (stepB HB0.out hb); clear hb) | (go_at_call 32; refine (H2.out _).mono ?_; rintro e w' ⟨rfl, rfl⟩) | (go_at_call 79; refine (H3.out _).mono ?_; rintro e w' ⟨rfl, rfl⟩))
        go_ret
        exact ⟨reti (by rw [HV.out]; simp), HB.out⟩

end Go.Proofs.YtdkegoaflabjoaaGreatDoor
namespace Go.Proofs.YtdkegoaflabjoaaGreatDoor
open Go.RowKit

theorem wlZ : msgV Msg.zero none 0 = .agg #[.string ⟨#[]⟩, .string ⟨#[]⟩, .int .i64 0, .bool false, .int .i64 0, .int .i64 0, .string ⟨#[]⟩, .int .i64 0, .slice none 0 0] := rfl
theorem natc {a b : Nat} (h : a = b) : (a : Int) = b := by rw [h]

theorem checkWill_any (p : Pkt) (a : PA) (w : World) (hw : S1.Okw w) (h : PL w w.heap.size a.v p.wmsg.props) (hn : p.wmsg.props.length ≤ 9223372036854775806) :
 Calls Tryz.prog 76 #[wlV p a] w fun e w' => e = .returned (.int .i64 (willR p.wset p.wdelay p.wmsg)) ∧ Below w.heap.size w w' := by
 unfold wlV
 have k0 : (wlC p a)[0]? = some (.bool p.wset) := rfl
 have k1 : (wlC p a)[1]? = some (.int .i64 p.wdelay) := rfl
 obtain ⟨w1, hw1⟩ : ∃ w1, w1 = w.alloc (.cells (wlC p a).toArray 33) := ⟨_, rfl⟩
 have hb1 : Below w.heap.size w w1 := by rw [hw1]; exact belA _ _
 have hm1 : MT 33 w1 w.heap.size (wlC p a) := by rw [hw1]; exact MT.new w _ _
 have C1 := same_any p.wmsg Msg.zero a.v none a.vc 0 w1 (h.step hb1) (GL.nil _ _ _) hn
 have C2 := fun w => within3_any p.wdelay 0 1099511627776 w
 have C3 := check_any p.wmsg a.v a.vc w1 (hw.step hb1) (h.step hb1)
 have c0 : w1.cell? ⟨w.heap.size, 0, none⟩ = some (.bool p.wset) := hm1.cell 0
 have c1 : w1.cell? ⟨w.heap.size, 1, none⟩ = some (.int .i64 p.wdelay) := hm1.cell 1
 have HM := Lib.hid hm1
 have HB := Lib.hid hb1
 have HW := Lib.hid hw1
 rw [wlZ] at C1
 unfold sameM at C1
 clear hw h hn hw1 hb1 hm1 k0 k1
 have HV : Hid (willR p.wset p.wdelay p.wmsg = if p.wset = false then (if p.wdelay ≠ 0 ∨ p.wmsg ≠ Msg.zero then 28 else 0) else if p.wdelay < 0 ∨ 1099511627776 < p.wdelay then 1 else checkR p.wmsg) := Lib.hid rfl
 generalize willR p.wset p.wdelay p.wmsg = r at HV ⊢
 generalize p.wset = s at *
 generalize p.wdelay = d at *
 generalize checkR p.wmsg = k at *
 cases s
 · by_cases hd : d = 0
   · have q0 : (d != 0) = false := by rw [hd]; rfl
     by_cases hz : p.wmsg = Msg.zero
     · have HV2 : Hid (r = 0) := Lib.hid (by rw [HV.out]; simp [hd, hz])
       rw [decide_eq_true hz] at C1
       have H1 := Lib.hid C1
       clear C1 C2 C3 HV hd hz
       go_enter Tryz.func76, Tryz.ntmps76
       go_upto_region 1 with fail
       rw [← HW.out]
       go_wp2_with (first | (refine wpList_load_part (by rfl) 31 _ rfl w.heap.size 2 9 rfl 33 (wlC p a) (0, 0) _ HM.out Tryz.underlying31 rfl info26 (by show 2 + 9 ≤ 11; decide) ?_) | (go_at_call 71; refine H1.out.mono ?_; rintro e w2 ⟨rfl, hb⟩; have HB2 := Lib.hid (stepB HB.out hb); clear hb))
       go_ret
       exact ⟨reti (natc HV2.out.symm), HB2.out⟩
     · have HV2 : Hid (r = 28) := Lib.hid (by rw [HV.out]; simp [hz])
       rw [decide_eq_false hz] at C1
       have H1 := Lib.hid C1
       clear C1 C2 C3 HV hd hz
       go_enter Tryz.func76, Tryz.ntmps76
       go_upto_region 1 with fail
       rw [← HW.out]
       go_wp2_with (first | (refine wpList_load_part (by rfl) 31 _ rfl w.heap.size 2 9 rfl 33 (wlC p a) (0, 0) _ HM.out Tryz.underlying31 rfl info26 (by show 2 + 9 ≤ 11; decide) ?_) | (go_at_call 71; refine H1.out.mono ?_; rintro e w2 ⟨rfl, hb⟩; have HB2 := Lib.hid (stepB HB.out hb); clear hb))
       go_ret
       exact ⟨reti (natc HV2.out.symm), HB2.out⟩
   · have HV2 : Hid (r = 28) := Lib.hid (by rw [HV.out]; simp [hd])
     have q0 : (d != 0) = true := by simp [hd]
     clear C1 C2 C3 HV hd
     go_enter Tryz.func76, Tryz.ntmps76
     go_upto_region 1 with fail
     rw [← HW.out]
     go_wp2
     go_ret
     exact ⟨reti (natc HV2.out.symm), HB.out⟩
 · by_cases hd : d < 0 ∨ 1099511627776 < d
   · have HV2 : Hid (r = 1) := Lib.hid (by rw [HV.out]; simp [hd])
     rw [w3_no hd] at C2
     have H2 := Lib.hid C2
     clear C1 C2 C3 HV hd
     go_enter Tryz.func76, Tryz.ntmps76
     go_upto_region 1 with fail
     rw [← HW.out]
     go_wp2_with (go_at_call 32; refine (H2.out _).mono ?_; rintro e w' ⟨rfl, rfl⟩)
     go_ret
     exact ⟨reti (natc HV2.out.symm), HB.out⟩
   · have HV2 : Hid (r = k) := Lib.hid (by rw [HV.out, if_neg (by decide), if_neg hd])
     rw [w3_yes hd] at C2
     have H2 := Lib.hid C2
     have H3 := Lib.hid C3
     clear C1 C2 C3 HV hd
     go_enter Tryz.func76, Tryz.ntmps76
     go_upto_region 1 with fail
     rw [← HW.out]
     go_wp2_with (first | (refine wpList_load_part (by rfl) 31 _ rfl w.heap.size 2 9 rfl 33 (wlC p a) (0, 0) _ HM.out Tryz.underlying31 rfl info26 (by show 2 + 9 ≤ 11; decide) ?_) | (go_at_call 32; refine (H2.out _).mono ?_; rintro e w' ⟨rfl, rfl⟩) | (go_at_call 77; refine H3.out.mono ?_; rintro e w2 ⟨rfl, hb⟩; have HB2 := Lib.hid (stepB HB.out hb); clear hb))
     go_ret
     exact ⟨reti (natc HV2.out.symm), HB2.out⟩

end Go.Proofs.YtdkegoaflabjoaaGreatDoor
namespace Go.Proofs.YtdkegoaflabjoaaGreatDoor
open Go.RowKit

def emptyB (s : ByteArray) : Bool := decide (s = ⟨#[]⟩)
theorem empty_fact (s : ByteArray) : s.toList.isEmpty = emptyB s := by
 unfold emptyB
 by_cases h : s = ⟨#[]⟩
 · rw [decide_eq_true h]; exact str_none h
 · rw [decide_eq_false h]; exact str_some h
theorem w3_iff (n a b : Int) : (within3 n a b = false) = (n < a ∨ b < n) := by
 refine propext ⟨fun h => Decidable.byContradiction fun h2 => ?_, fun h => w3_no h⟩
 rw [w3_yes h2] at h
 cases h
theorem conn_parts (p : Pkt) : connR p = if (!nameR p.client || (!emptyB p.user && !nameR p.user)) = true then 11 else if (!within3 p.keep 0 1099511627776 || (!within3 p.expiry 0 1099511627776 || !within3 p.window 1 32)) = true then 1 else willR p.wset p.wdelay p.wmsg := by
 unfold connR emptyB
 simp only [Bool.or_eq_true, Bool.and_eq_true, Bool.not_eq_true', w3_iff, decide_eq_false_iff_not, ne_eq]

theorem checkConnect_any (p : Pkt) (a : PA) (w : World) (hw : S1.Okw w) (h : PL w w.heap.size a.v p.wmsg.props) (hn : p.wmsg.props.length ≤ 9223372036854775806) :
 Calls Tryz.prog 35 #[pkV p a] w fun e w' => e = .returned (.int .i64 (connR p)) ∧ Below w.heap.size w w' := by
 unfold pkV
 obtain ⟨w1, hw1⟩ : ∃ w1, w1 = w.alloc (.cells (pkC p a).toArray 38) := ⟨_, rfl⟩
 have hb1 : Below w.heap.size w w1 := by rw [hw1]; exact belA _ _
 have hm1 : MT 38 w1 w.heap.size (pkC p a) := by rw [hw1]; exact MT.new w _ _
 have hz1 : w.heap.size < w1.heap.size := hm1.lt
 have c12 : w1.cell? ⟨w.heap.size, 12, none⟩ = some (.string p.client) := hm1.cell 12
 have c13 : w1.cell? ⟨w.heap.size, 13, none⟩ = some (.string p.user) := hm1.cell 13
 have c15 : w1.cell? ⟨w.heap.size, 15, none⟩ = some (.int .i64 p.keep) := hm1.cell 15
 have c16 : w1.cell? ⟨w.heap.size, 16, none⟩ = some (.int .i64 p.expiry) := hm1.cell 16
 have c17 : w1.cell? ⟨w.heap.size, 17, none⟩ = some (.int .i64 p.window) := hm1.cell 17
 have HM1 := Lib.hid hm1
 have HB1 := Lib.hid hb1
 have HW1 := Lib.hid hw1
 have H1 : Hid (∀ w, Calls Tryz.prog 75 #[.string p.client] w fun e w' => e = .returned (.bool (nameR p.client)) ∧ Below w.heap.size w w') := Lib.hid (fun w => S1.tName_any p.client w)
 have H2 : Hid (∀ w, Calls Tryz.prog 75 #[.string p.user] w fun e w' => e = .returned (.bool (nameR p.user)) ∧ Below w.heap.size w w') := Lib.hid (fun w => S1.tName_any p.user w)
 have H3 := Lib.hid (fun w => within3_any p.keep 0 1099511627776 w)
 have H4 := Lib.hid (fun w => within3_any p.expiry 0 1099511627776 w)
 have H5 := Lib.hid (fun w => within3_any p.window 1 32 w)
 have H6 : Hid (∀ w, S1.Okw w → PL w w.heap.size a.v p.wmsg.props → Calls Tryz.prog 76 #[wlV p a] w fun e w' => e = .returned (.int .i64 (willR p.wset p.wdelay p.wmsg)) ∧ Below w.heap.size w w') := Lib.hid (fun w h1 h2 => checkWill_any p a w h1 h2 hn)
 have HO := Lib.hid hw
 have HP := Lib.hid h
 have HV := Lib.hid (conn_parts p)
 have q13 := empty_fact p.user
 unfold wlV at H6
 generalize connR p = r at HV ⊢
 generalize willR p.wset p.wdelay p.wmsg = k at H6 HV
 generalize within3 p.keep 0 1099511627776 = b1 at H3 HV
 generalize within3 p.expiry 0 1099511627776 = b2 at H4 HV
 generalize within3 p.window 1 32 = b3 at H5 HV
 generalize emptyB p.user = u at q13 HV
 generalize nameR p.client = n1 at H1 HV
 generalize nameR p.user = n2 at H2 HV
 clear hw h hn hb1 hm1 hw1
 cases n1 with
 | false =>
   go_enter Tryz.func35, Tryz.ntmps35
   go_upto_region 1 with fail
   rw [← HW1.out]
   go_wp2_with fail
   refine (H1.out w1).mono ?_
   rintro e w2 ⟨rfl, hb⟩
   obtain ⟨hc2, hf2⟩ := bcell hb
   have hz2 : w.heap.size < w2.heap.size := Nat.lt_of_lt_of_le hz1 hb.size
   have HM2 := Lib.hid (MT.step HM1.out hb)
   have HB2 := Lib.hid (stepB HB1.out hb)
   clear hb
   go_wp2_with fail
   go_ret
   exact ⟨reti (natc HV.out.symm), HB2.out⟩
 | true =>
   cases u with
   | false =>
     cases n2 with
     | false =>
       go_enter Tryz.func35, Tryz.ntmps35
       go_upto_region 1 with fail
       rw [← HW1.out]
       go_wp2_with fail
       refine (H1.out w1).mono ?_
       rintro e w2 ⟨rfl, hb⟩
       obtain ⟨hc2, hf2⟩ := bcell hb
       have hz2 : w.heap.size < w2.heap.size := Nat.lt_of_lt_of_le hz1 hb.size
       have HM2 := Lib.hid (MT.step HM1.out hb)
       have HB2 := Lib.hid (stepB HB1.out hb)
       clear hb
       go_wp2_with fail
       refine (H2.out w2).mono ?_
       rintro e w3 ⟨rfl, hb⟩
       obtain ⟨hc3, hf3⟩ := bcell hb
       have hz3 : w.heap.size < w3.heap.size := Nat.lt_of_lt_of_le hz2 hb.size
       have HM3 := Lib.hid (MT.step HM2.out hb)
       have HB3 := Lib.hid (stepB HB2.out hb)
       clear hb
       go_wp2_with fail
       go_ret
       exact ⟨reti (natc HV.out.symm), HB3.out⟩
     | true =>
       cases b1 with
       | false =>
         go_enter Tryz.func35, Tryz.ntmps35
         go_upto_region 1 with fail
         rw [← HW1.out]
         go_wp2_with fail
         refine (H1.out w1).mono ?_
         rintro e w2 ⟨rfl, hb⟩
         obtain ⟨hc2, hf2⟩ := bcell hb
         have hz2 : w.heap.size < w2.heap.size := Nat.lt_of_lt_of_le hz1 hb.size
         have HM2 := Lib.hid (MT.step HM1.out hb)
         have HB2 := Lib.hid (stepB HB1.out hb)
         clear hb
         go_wp2_with fail
         refine (H2.out w2).mono ?_
         rintro e w3 ⟨rfl, hb⟩
         obtain ⟨hc3, hf3⟩ := bcell hb
         have hz3 : w.heap.size < w3.heap.size := Nat.lt_of_lt_of_le hz2 hb.size
         have HM3 := Lib.hid (MT.step HM2.out hb)
         have HB3 := Lib.hid (stepB HB2.out hb)
         clear hb
         go_wp2_with fail
         refine (H3.out w3).mono ?_
         rintro e w' ⟨rfl, rfl⟩
         go_wp2_with fail
         go_ret
         exact ⟨reti (natc HV.out.symm), HB3.out⟩
       | true =>
         cases b2 with
         | false =>
           go_enter Tryz.func35, Tryz.ntmps35
           go_upto_region 1 with fail
           rw [← HW1.out]
           go_wp2_with fail
           refine (H1.out w1).mono ?_
           rintro e w2 ⟨rfl, hb⟩
           obtain ⟨hc2, hf2⟩ := bcell hb
           have hz2 : w.heap.size < w2.heap.size := Nat.lt_of_lt_of_le hz1 hb.size
           have HM2 := Lib.hid (MT.step HM1.out hb)
           have HB2 := Lib.hid (stepB HB1.out hb)
           clear hb
           go_wp2_with fail
           refine (H2.out w2).mono ?_
           rintro e w3 ⟨rfl, hb⟩
           obtain ⟨hc3, hf3⟩ := bcell hb
           have hz3 : w.heap.size < w3.heap.size := Nat.lt_of_lt_of_le hz2 hb.size
           have HM3 := Lib.hid (MT.step HM2.out hb)
           have HB3 := Lib.hid (stepB HB2.out hb)
           clear hb
           go_wp2_with fail
           refine (H3.out w3).mono ?_
           rintro e w' ⟨rfl, rfl⟩
           go_wp2_with fail
           refine (H4.out w3).mono ?_
           rintro e w' ⟨rfl, rfl⟩
           go_wp2_with fail
           go_ret
           exact ⟨reti (natc HV.out.symm), HB3.out⟩
         | true =>
           cases b3 with
           | false =>
             go_enter Tryz.func35, Tryz.ntmps35
             go_upto_region 1 with fail
             rw [← HW1.out]
             go_wp2_with fail
             refine (H1.out w1).mono ?_
             rintro e w2 ⟨rfl, hb⟩
             obtain ⟨hc2, hf2⟩ := bcell hb
             have hz2 : w.heap.size < w2.heap.size := Nat.lt_of_lt_of_le hz1 hb.size
             have HM2 := Lib.hid (MT.step HM1.out hb)
             have HB2 := Lib.hid (stepB HB1.out hb)
             clear hb
             go_wp2_with fail
             refine (H2.out w2).mono ?_
             rintro e w3 ⟨rfl, hb⟩
             obtain ⟨hc3, hf3⟩ := bcell hb
             have hz3 : w.heap.size < w3.heap.size := Nat.lt_of_lt_of_le hz2 hb.size
             have HM3 := Lib.hid (MT.step HM2.out hb)
             have HB3 := Lib.hid (stepB HB2.out hb)
             clear hb
             go_wp2_with fail
             refine (H3.out w3).mono ?_
             rintro e w' ⟨rfl, rfl⟩
             go_wp2_with fail
             refine (H4.out w3).mono ?_
             rintro e w' ⟨rfl, rfl⟩
             go_wp2_with fail
             refine (H5.out w3).mono ?_
             rintro e w' ⟨rfl, rfl⟩
             go_wp2_with fail
             go_ret
             exact ⟨reti (natc HV.out.symm), HB3.out⟩
           | true =>
             go_enter Tryz.func35, Tryz.ntmps35
             go_upto_region 1 with fail
             rw [← HW1.out]
             go_wp2_with fail
             refine (H1.out w1).mono ?_
             rintro e w2 ⟨rfl, hb⟩
             obtain ⟨hc2, hf2⟩ := bcell hb
             have hz2 : w.heap.size < w2.heap.size := Nat.lt_of_lt_of_le hz1 hb.size
             have HM2 := Lib.hid (MT.step HM1.out hb)
             have HB2 := Lib.hid (stepB HB1.out hb)
             clear hb
             go_wp2_with fail
             refine (H2.out w2).mono ?_
             rintro e w3 ⟨rfl, hb⟩
             obtain ⟨hc3, hf3⟩ := bcell hb
             have hz3 : w.heap.size < w3.heap.size := Nat.lt_of_lt_of_le hz2 hb.size
             have HM3 := Lib.hid (MT.step HM2.out hb)
             have HB3 := Lib.hid (stepB HB2.out hb)
             clear hb
             go_wp2_with fail
             refine (H3.out w3).mono ?_
             rintro e w' ⟨rfl, rfl⟩
             go_wp2_with fail
             refine (H4.out w3).mono ?_
             rintro e w' ⟨rfl, rfl⟩
             go_wp2_with fail
             refine (H5.out w3).mono ?_
             rintro e w' ⟨rfl, rfl⟩
             go_wp2_with (refine wpList_load_part (by rfl) 33 _ rfl w.heap.size 18 11 rfl 38 (pkC p a) (0, 0) _ HM3.out Tryz.underlying33 rfl info28 (by show 18 + 11 ≤ 34; decide) ?_)
             refine (H6.out w3 (HO.out.step HB3.out) (HP.out.step HB3.out)).mono ?_
             rintro e w4 ⟨rfl, hb⟩
             have HM4 := Lib.hid (MT.step HM3.out hb)
             have HB4 := Lib.hid (stepB HB3.out hb)
             clear hb
             go_wp2_with fail
             go_ret
             exact ⟨reti (natc HV.out.symm), HB4.out⟩
   | true =>
     cases b1 with
     | false =>
       go_enter Tryz.func35, Tryz.ntmps35
       go_upto_region 1 with fail
       rw [← HW1.out]
       go_wp2_with fail
       refine (H1.out w1).mono ?_
       rintro e w2 ⟨rfl, hb⟩
       obtain ⟨hc2, hf2⟩ := bcell hb
       have hz2 : w.heap.size < w2.heap.size := Nat.lt_of_lt_of_le hz1 hb.size
       have HM2 := Lib.hid (MT.step HM1.out hb)
       have HB2 := Lib.hid (stepB HB1.out hb)
       clear hb
       go_wp2_with fail
       refine (H3.out w2).mono ?_
       rintro e w' ⟨rfl, rfl⟩
       go_wp2_with fail
       go_ret
       exact ⟨reti (natc HV.out.symm), HB2.out⟩
     | true =>
       cases b2 with
       | false =>
         go_enter Tryz.func35, Tryz.ntmps35
         go_upto_region 1 with fail
         rw [← HW1.out]
         go_wp2_with fail
         refine (H1.out w1).mono ?_
         rintro e w2 ⟨rfl, hb⟩
         obtain ⟨hc2, hf2⟩ := bcell hb
         have hz2 : w.heap.size < w2.heap.size := Nat.lt_of_lt_of_le hz1 hb.size
         have HM2 := Lib.hid (MT.step HM1.out hb)
         have HB2 := Lib.hid (stepB HB1.out hb)
         clear hb
         go_wp2_with fail
         refine (H3.out w2).mono ?_
         rintro e w' ⟨rfl, rfl⟩
         go_wp2_with fail
         refine (H4.out w2).mono ?_
         rintro e w' ⟨rfl, rfl⟩
         go_wp2_with fail
         go_ret
         exact ⟨reti (natc HV.out.symm), HB2.out⟩
       | true =>
         cases b3 with
         | false =>
           go_enter Tryz.func35, Tryz.ntmps35
           go_upto_region 1 with fail
           rw [← HW1.out]
           go_wp2_with fail
           refine (H1.out w1).mono ?_
           rintro e w2 ⟨rfl, hb⟩
           obtain ⟨hc2, hf2⟩ := bcell hb
           have hz2 : w.heap.size < w2.heap.size := Nat.lt_of_lt_of_le hz1 hb.size
           have HM2 := Lib.hid (MT.step HM1.out hb)
           have HB2 := Lib.hid (stepB HB1.out hb)
           clear hb
           go_wp2_with fail
           refine (H3.out w2).mono ?_
           rintro e w' ⟨rfl, rfl⟩
           go_wp2_with fail
           refine (H4.out w2).mono ?_
           rintro e w' ⟨rfl, rfl⟩
           go_wp2_with fail
           refine (H5.out w2).mono ?_
           rintro e w' ⟨rfl, rfl⟩
           go_wp2_with fail
           go_ret
           exact ⟨reti (natc HV.out.symm), HB2.out⟩
         | true =>
           go_enter Tryz.func35, Tryz.ntmps35
           go_upto_region 1 with fail
           rw [← HW1.out]
           go_wp2_with fail
           refine (H1.out w1).mono ?_
           rintro e w2 ⟨rfl, hb⟩
           obtain ⟨hc2, hf2⟩ := bcell hb
           have hz2 : w.heap.size < w2.heap.size := Nat.lt_of_lt_of_le hz1 hb.size
           have HM2 := Lib.hid (MT.step HM1.out hb)
           have HB2 := Lib.hid (stepB HB1.out hb)
           clear hb
           go_wp2_with fail
           refine (H3.out w2).mono ?_
           rintro e w' ⟨rfl, rfl⟩
           go_wp2_with fail
           refine (H4.out w2).mono ?_
           rintro e w' ⟨rfl, rfl⟩
           go_wp2_with fail
           refine (H5.out w2).mono ?_
           rintro e w' ⟨rfl, rfl⟩
           go_wp2_with (refine wpList_load_part (by rfl) 33 _ rfl w.heap.size 18 11 rfl 38 (pkC p a) (0, 0) _ HM2.out Tryz.underlying33 rfl info28 (by show 18 + 11 ≤ 34; decide) ?_)
           refine (H6.out w2 (HO.out.step HB2.out) (HP.out.step HB2.out)).mono ?_
           rintro e w3 ⟨rfl, hb⟩
           have HM3 := Lib.hid (MT.step HM2.out hb)
           have HB3 := Lib.hid (stepB HB2.out hb)
           clear hb
           go_wp2_with fail
           go_ret
           exact ⟨reti (natc HV.out.symm), HB3.out⟩

theorem checkConnack_any (p : Pkt) (a : PA) (w : World) : Calls Tryz.prog 36 #[pkV p a] w fun e w' => e = .returned (.int .i64 (ackR p)) ∧ Below w.heap.size w w' := by
 unfold pkV
 obtain ⟨w1, hw1⟩ : ∃ w1, w1 = w.alloc (.cells (pkC p a).toArray 38) := ⟨_, rfl⟩
 have hb1 : Below w.heap.size w w1 := by rw [hw1]; exact belA _ _
 have hm1 : MT 38 w1 w.heap.size (pkC p a) := by rw [hw1]; exact MT.new w _ _
 have hz1 : w.heap.size < w1.heap.size := hm1.lt
 have c29 : w1.cell? ⟨w.heap.size, 29, none⟩ = some (.bool p.present) := hm1.cell 29
 have c30 : w1.cell? ⟨w.heap.size, 30, none⟩ = some (.int .i64 p.code) := hm1.cell 30
 have HM1 := Lib.hid hm1
 have HB1 := Lib.hid hb1
 have HW1 := Lib.hid hw1
 have H1 := Lib.hid (fun w => checkCode_any p.code w)
 have HV : Hid (ackR p = if codR p.code ≠ 0 then codR p.code else if p.present = true ∧ p.code ≠ 0 then 28 else 0) := Lib.hid rfl
 generalize ackR p = r at HV ⊢
 generalize codR p.code = k at H1 HV
 generalize p.present = b at c29 HV
 clear hb1 hm1 hw1
 by_cases h0 : k = 0
 · subst h0
   cases b with
   | false =>
     have HV2 : Hid (r = 0) := Lib.hid (by rw [HV.out]; simp)
     clear HV
     go_enter Tryz.func36, Tryz.ntmps36
     go_upto_region 1 with fail
     rw [← HW1.out]
     go_wp2_with fail
     refine (H1.out w1).mono ?_
     rintro e w' ⟨rfl, rfl⟩
     go_wp2_with fail
     go_ret
     exact ⟨reti (natc HV2.out.symm), HB1.out⟩
   | true =>
     by_cases hc : p.code = 0
     · have HV2 : Hid (r = 0) := Lib.hid (by rw [HV.out]; simp [hc])
       have q0 : (p.code != 0) = false := by rw [hc]; rfl
       clear HV hc
       go_enter Tryz.func36, Tryz.ntmps36
       go_upto_region 1 with fail
       rw [← HW1.out]
       go_wp2_with fail
       refine (H1.out w1).mono ?_
       rintro e w' ⟨rfl, rfl⟩
       go_wp2_with fail
       go_ret
       exact ⟨reti (natc HV2.out.symm), HB1.out⟩
     · have HV2 : Hid (r = 28) := Lib.hid (by rw [HV.out]; simp [hc])
       have q0 : (p.code != 0) = true := by simp [hc]
       clear HV hc
       go_enter Tryz.func36, Tryz.ntmps36
       go_upto_region 1 with fail
       rw [← HW1.out]
       go_wp2_with fail
       refine (H1.out w1).mono ?_
       rintro e w' ⟨rfl, rfl⟩
       go_wp2_with fail
       go_ret
       exact ⟨reti (natc HV2.out.symm), HB1.out⟩
 · have HV2 : Hid (r = k) := Lib.hid (by rw [HV.out, if_pos h0])
   have q0 : ((k : Int) != 0) = true := by simp [h0]
   clear HV h0
   go_enter Tryz.func36, Tryz.ntmps36
   go_upto_region 1 with fail
   rw [← HW1.out]
   go_wp2_with fail
   refine (H1.out w1).mono ?_
   rintro e w' ⟨rfl, rfl⟩
   go_wp2_with fail
   go_ret
   exact ⟨reti (natc HV2.out.symm), HB1.out⟩

theorem checkPublish_any (p : Pkt) (a : PA) (w : World) (hw : S1.Okw w) (h : PL w w.heap.size a.m p.msg.props) : Calls Tryz.prog 37 #[pkV p a] w fun e w' => e = .returned (.int .i64 (pubR p)) ∧ Below w.heap.size w w' := by
 unfold pkV
 obtain ⟨w1, hw1⟩ : ∃ w1, w1 = w.alloc (.cells (pkC p a).toArray 38) := ⟨_, rfl⟩
 have hb1 : Below w.heap.size w w1 := by rw [hw1]; exact belA _ _
 have hm1 : MT 38 w1 w.heap.size (pkC p a) := by rw [hw1]; exact MT.new w _ _
 have hz1 : w.heap.size < w1.heap.size := hm1.lt
 have c1 : w1.cell? ⟨w.heap.size, 1, none⟩ = some (.int .i64 p.id) := hm1.cell 1
 have c2 : w1.cell? ⟨w.heap.size, 2, none⟩ = some (.bool p.dup) := hm1.cell 2
 have c5 : w1.cell? ⟨w.heap.size, 5, none⟩ = some (.int .i64 p.msg.level) := hm1.cell 5
 have HM1 := Lib.hid hm1
 have HB1 := Lib.hid hb1
 have HW1 := Lib.hid hw1
 have H1 : Hid (∀ w, S1.Okw w → PL w w.heap.size a.m p.msg.props → Calls Tryz.prog 77 #[msgV p.msg a.m a.mc] w fun e w' => e = .returned (.int .i64 (checkR p.msg)) ∧ Below w.heap.size w w') := Lib.hid (fun w h1 h2 => check_any p.msg a.m a.mc w h1 h2)
 have H2 := Lib.hid (fun w => checkID_any p.id w)
 have HO := Lib.hid hw
 have HP := Lib.hid h
 have HV : Hid (pubR p = if checkR p.msg ≠ 0 then checkR p.msg else if 0 < p.msg.level then idR p.id else if p.id ≠ 0 then 15 else if p.dup = true then 28 else 0) := Lib.hid rfl
 generalize pubR p = r at HV ⊢
 generalize checkR p.msg = k at H1 HV
 generalize idR p.id = j at H2 HV
 generalize p.dup = b at c2 HV
 clear hw h hb1 hm1 hw1
 by_cases h0 : k = 0
 · subst h0
   by_cases hl : 0 < p.msg.level
   · have HV2 : Hid (r = j) := Lib.hid (by rw [HV.out]; simp [hl])
     have q0 : decide (0 < p.msg.level) = true := decide_eq_true hl
     clear HV hl
     go_enter Tryz.func37, Tryz.ntmps37
     go_upto_region 1 with fail
     rw [← HW1.out]
     go_wp2_with (refine wpList_load_part (by rfl) 31 _ rfl w.heap.size 3 9 rfl 38 (pkC p a) (0, 0) _ HM1.out Tryz.underlying31 rfl info26 (by show 3 + 9 ≤ 34; decide) ?_)
     refine (H1.out w1 (HO.out.step HB1.out) (HP.out.step HB1.out)).mono ?_
     rintro e w2 ⟨rfl, hb⟩
     obtain ⟨hc2, hf2⟩ := bcell hb
     have hz2 : w.heap.size < w2.heap.size := Nat.lt_of_lt_of_le hz1 hb.size
     have HM2 := Lib.hid (MT.step HM1.out hb)
     have HB2 := Lib.hid (stepB HB1.out hb)
     clear hb
     go_wp2_with fail
     refine (H2.out w2).mono ?_
     rintro e w' ⟨rfl, rfl⟩
     go_wp2_with fail
     go_ret
     exact ⟨reti (natc HV2.out.symm), HB2.out⟩
   · have q0 : decide (0 < p.msg.level) = false := decide_eq_false hl
     by_cases hi : p.id = 0
     · have q1 : (p.id != 0) = false := by rw [hi]; rfl
       cases b with
       | false =>
         have HV2 : Hid (r = 0) := Lib.hid (by rw [HV.out]; simp [hl, hi])
         clear HV hl hi
         go_enter Tryz.func37, Tryz.ntmps37
         go_upto_region 1 with fail
         rw [← HW1.out]
         go_wp2_with (refine wpList_load_part (by rfl) 31 _ rfl w.heap.size 3 9 rfl 38 (pkC p a) (0, 0) _ HM1.out Tryz.underlying31 rfl info26 (by show 3 + 9 ≤ 34; decide) ?_)
         refine (H1.out w1 (HO.out.step HB1.out) (HP.out.step HB1.out)).mono ?_
         rintro e w2 ⟨rfl, hb⟩
         obtain ⟨hc2, hf2⟩ := bcell hb
         have hz2 : w.heap.size < w2.heap.size := Nat.lt_of_lt_of_le hz1 hb.size
         have HM2 := Lib.hid (MT.step HM1.out hb)
         have HB2 := Lib.hid (stepB HB1.out hb)
         clear hb
         go_wp2_with fail
         go_ret
         exact ⟨reti (natc HV2.out.symm), HB2.out⟩
       | true =>
         have HV2 : Hid (r = 28) := Lib.hid (by rw [HV.out]; simp [hl, hi])
         clear HV hl hi
         go_enter Tryz.func37, Tryz.ntmps37
         go_upto_region 1 with fail
         rw [← HW1.out]
         go_wp2_with (refine wpList_load_part (by rfl) 31 _ rfl w.heap.size 3 9 rfl 38 (pkC p a) (0, 0) _ HM1.out Tryz.underlying31 rfl info26 (by show 3 + 9 ≤ 34; decide) ?_)
         refine (H1.out w1 (HO.out.step HB1.out) (HP.out.step HB1.out)).mono ?_
         rintro e w2 ⟨rfl, hb⟩
         obtain ⟨hc2, hf2⟩ := bcell hb
         have hz2 : w.heap.size < w2.heap.size := Nat.lt_of_lt_of_le hz1 hb.size
         have HM2 := Lib.hid (MT.step HM1.out hb)
         have HB2 := Lib.hid (stepB HB1.out hb)
         clear hb
         go_wp2_with fail
         go_ret
         exact ⟨reti (natc HV2.out.symm), HB2.out⟩
     · have q1 : (p.id != 0) = true := by simp [hi]
       have HV2 : Hid (r = 15) := Lib.hid (by rw [HV.out]; simp [hl, hi])
       clear HV hl hi
       go_enter Tryz.func37, Tryz.ntmps37
       go_upto_region 1 with fail
       rw [← HW1.out]
       go_wp2_with (refine wpList_load_part (by rfl) 31 _ rfl w.heap.size 3 9 rfl 38 (pkC p a) (0, 0) _ HM1.out Tryz.underlying31 rfl info26 (by show 3 + 9 ≤ 34; decide) ?_)
       refine (H1.out w1 (HO.out.step HB1.out) (HP.out.step HB1.out)).mono ?_
       rintro e w2 ⟨rfl, hb⟩
       obtain ⟨hc2, hf2⟩ := bcell hb
       have hz2 : w.heap.size < w2.heap.size := Nat.lt_of_lt_of_le hz1 hb.size
       have HM2 := Lib.hid (MT.step HM1.out hb)
       have HB2 := Lib.hid (stepB HB1.out hb)
       clear hb
       go_wp2_with fail
       go_ret
       exact ⟨reti (natc HV2.out.symm), HB2.out⟩
 · have HV2 : Hid (r = k) := Lib.hid (by rw [HV.out, if_pos h0])
   have q0 : ((k : Int) != 0) = true := by simp [h0]
   clear HV h0
   go_enter Tryz.func37, Tryz.ntmps37
   go_upto_region 1 with fail
   rw [← HW1.out]
   go_wp2_with (refine wpList_load_part (by rfl) 31 _ rfl w.heap.size 3 9 rfl 38 (pkC p a) (0, 0) _ HM1.out Tryz.underlying31 rfl info26 (by show 3 + 9 ≤ 34; decide) ?_)
   refine (H1.out w1 (HO.out.step HB1.out) (HP.out.step HB1.out)).mono ?_
   rintro e w2 ⟨rfl, hb⟩
   obtain ⟨hc2, hf2⟩ := bcell hb
   have hz2 : w.heap.size < w2.heap.size := Nat.lt_of_lt_of_le hz1 hb.size
   have HM2 := Lib.hid (MT.step HM1.out hb)
   have HB2 := Lib.hid (stepB HB1.out hb)
   clear hb
   go_wp2_with fail
   go_ret
   exact ⟨reti (natc HV2.out.symm), HB2.out⟩

end Go.Proofs.YtdkegoaflabjoaaGreatDoor
namespace Go.Proofs.YtdkegoaflabjoaaGreatDoor
open Go.RowKit

def ZUpto {α : Type} (f : α → Nat) (l : List α) (k : Nat) : Prop := ∀ j y, j < k → l[j]? = some y → f y = 0
theorem ZUpto.zero {α : Type} (f : α → Nat) (l : List α) : ZUpto f l 0 := fun _ _ h => absurd h (Nat.not_lt_zero _)
theorem ZUpto.succ {α : Type} {f : α → Nat} {l : List α} {k : Nat} {x : α} (h : ZUpto f l k) (hx : l[k]? = some x) (h0 : f x = 0) : ZUpto f l (k + 1) := fun j y hj hy => by
 rcases Nat.lt_succ_iff_lt_or_eq.1 hj with h' | h'
 · exact h j y h' hy
 · subst h'
   rw [hx] at hy
   rw [← Option.some.inj hy]; exact h0
theorem listR_id {α : Type} {id : Int} (l : List α) (f : α → Nat) (h : idR id ≠ 0) : listR id l f = idR id := by unfold listR; rw [if_pos h]
theorem listR_len {α : Type} {id : Int} {l : List α} (f : α → Nat) (h : idR id = 0) (h2 : lenR l.length ≠ 0) : listR id l f = lenR l.length := by unfold listR; rw [if_neg (by simp [h]), if_pos h2]
theorem listR_in {α : Type} {id : Int} {l : List α} (f : α → Nat) (h : idR id = 0) (h2 : lenR l.length = 0) : listR id l f = firstE f l := by unfold listR; rw [if_neg (by simp [h]), if_neg (by simp [h2])]

theorem checkListS_any (id : Int) (A : Option Addr) (c : Nat) (xs : List SB) (w : World) (hw : S1.Okw w) (hz : ∀ x ∈ xs, x.1.size ≤ 140737488355328) (h : BL w w.heap.size A xs) (hn : xs.length ≤ 9223372036854775806) :
 Calls Tryz.prog 39 #[.int .i64 id, .slice A xs.length c, .func (.func 40) #[] #[]] w fun e w' => e = .returned (.int .i64 (listR id xs subR)) ∧ Below w.heap.size w w' := by
 have H1 := Lib.hid (fun w => checkID_any id w)
 have HX := Lib.hid h
 have HO := Lib.hid hw
 have HZ := Lib.hid hz
 clear h hw hz
 by_cases hi : idR id = 0
 · by_cases h0 : xs.length = 0
   · have HV : Hid (listR id xs subR = 1) := Lib.hid (by rw [listR_len subR hi (by rw [h0]; decide), h0]; rfl)
     rw [hi] at H1
     have q0 : ((xs.length : Int) == 0) = true := by rw [h0]; rfl
     have q0' : (xs.length == 0) = true := by rw [h0]; rfl
     generalize listR id xs subR = r at HV ⊢
     generalize xs.length = n at *
     clear h0 hi HX
     go_enter Tryz.func39, Tryz.ntmps39
     go_wp2_with fail
     refine (H1.out w).mono ?_
     rintro e w' ⟨rfl, rfl⟩
     go_wp2_with fail
     go_ret
     exact ⟨reti (natc HV.out.symm), Below.refl _ _⟩
   · have q0 : ((xs.length : Int) == 0) = false := beq_eq_false_iff_ne.2 (by omega)
     have q0' : (xs.length == 0) = false := beq_eq_false_iff_ne.2 h0
     by_cases h1 : 32 < xs.length
     · have HV : Hid (listR id xs subR = 5) := Lib.hid (by have : lenR xs.length = 5 := by unfold lenR; rw [if_neg h0, if_pos h1]
                                                           rw [listR_len subR hi (by rw [this]; decide), this])
       rw [hi] at H1
       have q1 : decide ((32 : Int) < (xs.length : Int)) = true := decide_eq_true (by omega)
       have q1' : decide (32 < xs.length) = true := decide_eq_true h1
       generalize listR id xs subR = r at HV ⊢
       generalize xs.length = n at *
       clear h0 h1 hi HX
       go_enter Tryz.func39, Tryz.ntmps39
       go_wp2_with fail
       refine (H1.out w).mono ?_
       rintro e w' ⟨rfl, rfl⟩
       go_wp2_with fail
       go_ret
       exact ⟨reti (natc HV.out.symm), Below.refl _ _⟩
     · have HV : Hid (listR id xs subR = firstE subR xs) := Lib.hid (listR_in subR hi (by unfold lenR; rw [if_neg h0, if_neg h1]))
       rw [hi] at H1
       have q1 : decide ((32 : Int) < (xs.length : Int)) = false := decide_eq_false (by omega)
       have q1' : decide (32 < xs.length) = false := decide_eq_false h1
       generalize listR id xs subR = r at HV ⊢
       clear h0 hi
       have HN := Lib.hid h1
       clear h1
       go_enter Tryz.func39, Tryz.ntmps39
       go_wp2_with fail
       refine (H1.out w).mono ?_
       rintro e w' ⟨rfl, rfl⟩
       go_wp2_with fail
       go_loopg [26] xs.length (fun g v wr => ∃ k : Nat, k + g = xs.length ∧ v = .int .i64 k ∧ ZUpto subR xs k ∧ Below w.heap.size w wr)
       case atStart => exact ⟨0, by omega, rfl, ZUpto.zero _ _, Below.refl _ _⟩
       case round =>
        obtain ⟨k, hkg, rfl, hrel, hb⟩ := hrel
        have HR := Lib.hid hrel
        have HB := Lib.hid hb
        have HG := Lib.hid hkg
        clear hrel
        cases gk with
        | zero =>
          obtain rfl : k = xs.length := by omega
          have HV2 : Hid (r = 0) := Lib.hid (HV.out.trans (firstE_done HR.out))
          clear hkg hb
          go_wp2_with fail
          go_ret
          exact ⟨reti (natc HV2.out.symm), HB.out⟩
        | succ g =>
          have hlt : k < xs.length := by omega
          have e3 : decide ((k : Int) < (xs.length : Int)) = true := decide_eq_true (by omega)
          obtain ⟨x, hx⟩ : ∃ x, xs[k]? = some x := ⟨_, List.getElem?_eq_getElem hlt⟩
          obtain ⟨b, o, hA, hbB, kk, kv, kz⟩ := BL.at_ (HX.out.step hb) hx
          subst hA
          have j1 : (0 : Int) ≤ (k : Int) := by omega
          have j2 : (k : Int) < (xs.length : Int) := by omega
          have HC : Hid (∀ w1, Below w.heap.size w w1 → Calls Tryz.prog 40 #[.agg #[.string x.1, .int .i64 x.2.1, .bool x.2.2]] w1 fun e w' => e = .returned (.int .i64 (subR x)) ∧ Below w1.heap.size w1 w') := Lib.hid (fun w1 h1 => checkSub_any x w1 (HO.out.step h1) (HZ.out x (List.mem_of_getElem? hx)))
          have HS := Lib.hid (fun h0 : subR x = 0 => HR.out.succ hx h0)
          have HF := Lib.hid (fun h0 : subR x ≠ 0 => HV.out.trans (firstE_at HR.out hx h0))
          clear hx hkg hb
          generalize subR x = z at HC HS HF
          go_wp2_with fail
          refine (HC.out _ (by first | exact HB.out | exact HB.out.alloc HB.out.size _)).mono ?_
          rintro e w2 ⟨rfl, hb⟩
          have HB2 : Hid (Below w.heap.size w w2) := Lib.hid (stepB (by first | exact HB.out | exact HB.out.alloc HB.out.size _) hb)
          have hz2 : w.heap.size ≤ w2.heap.size := HB2.out.size
          clear hb
          by_cases hz : z = 0
          · have HS2 := Lib.hid (HS.out hz)
            subst hz
            clear HF HS
            go_wp2_with fail
            go_roundg g
            case measure => omega
            case rel => exact ⟨k + 1, by have := HG.out; omega, by go_num, HS2.out, HB2.out⟩
          · have HF2 := Lib.hid (HF.out hz)
            have q5 : ((z : Int) != 0) = true := by simp [hz]
            clear HF HS hz
            go_wp2_with fail
            go_ret
            exact ⟨reti (natc HF2.out.symm), HB2.out⟩
 · have HV : Hid (listR id xs subR = idR id) := Lib.hid (listR_id xs subR hi)
   generalize listR id xs subR = r at HV ⊢
   generalize idR id = j at H1 HV hi
   have q0 : ((j : Int) != 0) = true := by simp [hi]
   clear hi HX
   go_enter Tryz.func39, Tryz.ntmps39
   go_wp2_with fail
   refine (H1.out w).mono ?_
   rintro e w' ⟨rfl, rfl⟩
   go_wp2_with fail
   go_ret
   exact ⟨reti (natc HV.out.symm), Below.refl _ _⟩

theorem SL.at_ {w : World} {B : Nat} {A : Option Addr} {xs : List ByteArray} (h : SL w B A xs) {j : Nat} {x : ByteArray} (hx : xs[j]? = some x) :
 ∃ b o, A = some ⟨b, o, none⟩ ∧ b < B ∧ w.cell? ⟨b, o + j, none⟩ = some (.string x) := by
 obtain ⟨b, o, e, hb, hc⟩ := h (Nat.lt_of_le_of_lt (Nat.zero_le _) (List.getElem?_eq_some_iff.1 hx).1)
 exact ⟨b, o, e, hb, hc j x hx⟩
theorem checkListF_any (id : Int) (A : Option Addr) (c : Nat) (xs : List ByteArray) (w : World) (hw : S1.Okw w) (hz : ∀ x ∈ xs, x.size ≤ 140737488355328) (h : SL w w.heap.size A xs) (hn : xs.length ≤ 9223372036854775806) :
 Calls Tryz.prog 41 #[.int .i64 id, .slice A xs.length c, .func (.func 42) #[] #[]] w fun e w' => e = .returned (.int .i64 (listR id xs filR)) ∧ Below w.heap.size w w' := by
 have H1 := Lib.hid (fun w => checkID_any id w)
 have HX := Lib.hid h
 have HO := Lib.hid hw
 have HZ := Lib.hid hz
 clear h hw hz
 by_cases hi : idR id = 0
 · by_cases h0 : xs.length = 0
   · have HV : Hid (listR id xs filR = 1) := Lib.hid (by rw [listR_len filR hi (by rw [h0]; decide), h0]; rfl)
     rw [hi] at H1
     have q0 : ((xs.length : Int) == 0) = true := by rw [h0]; rfl
     have q0' : (xs.length == 0) = true := by rw [h0]; rfl
     generalize listR id xs filR = r at HV ⊢
     generalize xs.length = n at *
     clear h0 hi HX
     go_enter Tryz.func41, Tryz.ntmps41
     go_wp2_with fail
     refine (H1.out w).mono ?_
     rintro e w' ⟨rfl, rfl⟩
     go_wp2_with fail
     go_ret
     exact ⟨reti (natc HV.out.symm), Below.refl _ _⟩
   · have q0 : ((xs.length : Int) == 0) = false := beq_eq_false_iff_ne.2 (by omega)
     have q0' : (xs.length == 0) = false := beq_eq_false_iff_ne.2 h0
     by_cases h1 : 32 < xs.length
     · have HV : Hid (listR id xs filR = 5) := Lib.hid (by have : lenR xs.length = 5 := by unfold lenR; rw [if_neg h0, if_pos h1]
                                                           rw [listR_len filR hi (by rw [this]; decide), this])
       rw [hi] at H1
       have q1 : decide ((32 : Int) < (xs.length : Int)) = true := decide_eq_true (by omega)
       have q1' : decide (32 < xs.length) = true := decide_eq_true h1
       generalize listR id xs filR = r at HV ⊢
       generalize xs.length = n at *
       clear h0 h1 hi HX
       go_enter Tryz.func41, Tryz.ntmps41
       go_wp2_with fail
       refine (H1.out w).mono ?_
       rintro e w' ⟨rfl, rfl⟩
       go_wp2_with fail
       go_ret
       exact ⟨reti (natc HV.out.symm), Below.refl _ _⟩
     · have HV : Hid (listR id xs filR = firstE filR xs) := Lib.hid (listR_in filR hi (by unfold lenR; rw [if_neg h0, if_neg h1]))
       rw [hi] at H1
       have q1 : decide ((32 : Int) < (xs.length : Int)) = false := decide_eq_false (by omega)
       have q1' : decide (32 < xs.length) = false := decide_eq_false h1
       generalize listR id xs filR = r at HV ⊢
       clear h0 hi
       have HN := Lib.hid h1
       clear h1
       go_enter Tryz.func41, Tryz.ntmps41
       go_wp2_with fail
       refine (H1.out w).mono ?_
       rintro e w' ⟨rfl, rfl⟩
       go_wp2_with fail
       go_loopg [26] xs.length (fun g v wr => ∃ k : Nat, k + g = xs.length ∧ v = .int .i64 k ∧ ZUpto filR xs k ∧ Below w.heap.size w wr)
       case atStart => exact ⟨0, by omega, rfl, ZUpto.zero _ _, Below.refl _ _⟩
       case round =>
        obtain ⟨k, hkg, rfl, hrel, hb⟩ := hrel
        have HR := Lib.hid hrel
        have HB := Lib.hid hb
        have HG := Lib.hid hkg
        clear hrel
        cases gk with
        | zero =>
          obtain rfl : k = xs.length := by omega
          have HV2 : Hid (r = 0) := Lib.hid (HV.out.trans (firstE_done HR.out))
          clear hkg hb
          go_wp2_with fail
          go_ret
          exact ⟨reti (natc HV2.out.symm), HB.out⟩
        | succ g =>
          have hlt : k < xs.length := by omega
          have e3 : decide ((k : Int) < (xs.length : Int)) = true := decide_eq_true (by omega)
          obtain ⟨x, hx⟩ : ∃ x, xs[k]? = some x := ⟨_, List.getElem?_eq_getElem hlt⟩
          obtain ⟨b, o, hA, hbB, kk⟩ := SL.at_ (HX.out.step hb) hx
          subst hA
          have j1 : (0 : Int) ≤ (k : Int) := by omega
          have j2 : (k : Int) < (xs.length : Int) := by omega
          have HC : Hid (∀ w1, Below w.heap.size w w1 → Calls Tryz.prog 42 #[.string x] w1 fun e w' => e = .returned (.int .i64 (filR x)) ∧ Below w1.heap.size w1 w') := Lib.hid (fun w1 h1 => checkFilter_any x w1 (HO.out.step h1) (HZ.out x (List.mem_of_getElem? hx)))
          have HS := Lib.hid (fun h0 : filR x = 0 => HR.out.succ hx h0)
          have HF := Lib.hid (fun h0 : filR x ≠ 0 => HV.out.trans (firstE_at HR.out hx h0))
          clear hx hkg hb
          generalize filR x = z at HC HS HF
          go_wp2_with fail
          refine (HC.out _ (by first | exact HB.out | exact HB.out.alloc HB.out.size _)).mono ?_
          rintro e w2 ⟨rfl, hb⟩
          have HB2 : Hid (Below w.heap.size w w2) := Lib.hid (stepB (by first | exact HB.out | exact HB.out.alloc HB.out.size _) hb)
          have hz2 : w.heap.size ≤ w2.heap.size := HB2.out.size
          clear hb
          by_cases hz : z = 0
          · have HS2 := Lib.hid (HS.out hz)
            subst hz
            clear HF HS
            go_wp2_with fail
            go_roundg g
            case measure => omega
            case rel => exact ⟨k + 1, by have := HG.out; omega, by go_num, HS2.out, HB2.out⟩
          · have HF2 := Lib.hid (HF.out hz)
            have q5 : ((z : Int) != 0) = true := by simp [hz]
            clear HF HS hz
            go_wp2_with fail
            go_ret
            exact ⟨reti (natc HF2.out.symm), HB2.out⟩
 · have HV : Hid (listR id xs filR = idR id) := Lib.hid (listR_id xs filR hi)
   generalize listR id xs filR = r at HV ⊢
   generalize idR id = j at H1 HV hi
   have q0 : ((j : Int) != 0) = true := by simp [hi]
   clear hi HX
   go_enter Tryz.func41, Tryz.ntmps41
   go_wp2_with fail
   refine (H1.out w).mono ?_
   rintro e w' ⟨rfl, rfl⟩
   go_wp2_with fail
   go_ret
   exact ⟨reti (natc HV.out.symm), Below.refl _ _⟩

theorem checkListC_any (id : Int) (A : Option Addr) (c : Nat) (xs : List Int) (w : World) (h : IL w w.heap.size A xs) (hn : xs.length ≤ 9223372036854775806) :
 Calls Tryz.prog 43 #[.int .i64 id, .slice A xs.length c, .func (.func 44) #[] #[]] w fun e w' => e = .returned (.int .i64 (listR id xs codR)) ∧ Below w.heap.size w w' := by
 have H1 := Lib.hid (fun w => checkID_any id w)
 have HX := Lib.hid h
 clear h
 by_cases hi : idR id = 0
 · by_cases h0 : xs.length = 0
   · have HV : Hid (listR id xs codR = 1) := Lib.hid (by rw [listR_len codR hi (by rw [h0]; decide), h0]; rfl)
     rw [hi] at H1
     have q0 : ((xs.length : Int) == 0) = true := by rw [h0]; rfl
     have q0' : (xs.length == 0) = true := by rw [h0]; rfl
     generalize listR id xs codR = r at HV ⊢
     generalize xs.length = n at *
     clear h0 hi HX
     go_enter Tryz.func43, Tryz.ntmps43
     go_wp2_with fail
     refine (H1.out w).mono ?_
     rintro e w' ⟨rfl, rfl⟩
     go_wp2_with fail
     go_ret
     exact ⟨reti (natc HV.out.symm), Below.refl _ _⟩
   · have q0 : ((xs.length : Int) == 0) = false := beq_eq_false_iff_ne.2 (by omega)
     have q0' : (xs.length == 0) = false := beq_eq_false_iff_ne.2 h0
     by_cases h1 : 32 < xs.length
     · have HV : Hid (listR id xs codR = 5) := Lib.hid (by have : lenR xs.length = 5 := by unfold lenR; rw [if_neg h0, if_pos h1]
                                                           rw [listR_len codR hi (by rw [this]; decide), this])
       rw [hi] at H1
       have q1 : decide ((32 : Int) < (xs.length : Int)) = true := decide_eq_true (by omega)
       have q1' : decide (32 < xs.length) = true := decide_eq_true h1
       generalize listR id xs codR = r at HV ⊢
       generalize xs.length = n at *
       clear h0 h1 hi HX
       go_enter Tryz.func43, Tryz.ntmps43
       go_wp2_with fail
       refine (H1.out w).mono ?_
       rintro e w' ⟨rfl, rfl⟩
       go_wp2_with fail
       go_ret
       exact ⟨reti (natc HV.out.symm), Below.refl _ _⟩
     · have HV : Hid (listR id xs codR = firstE codR xs) := Lib.hid (listR_in codR hi (by unfold lenR; rw [if_neg h0, if_neg h1]))
       rw [hi] at H1
       have q1 : decide ((32 : Int) < (xs.length : Int)) = false := decide_eq_false (by omega)
       have q1' : decide (32 < xs.length) = false := decide_eq_false h1
       generalize listR id xs codR = r at HV ⊢
       clear h0 hi
       have HN := Lib.hid h1
       clear h1
       go_enter Tryz.func43, Tryz.ntmps43
       go_wp2_with fail
       refine (H1.out w).mono ?_
       rintro e w' ⟨rfl, rfl⟩
       go_wp2_with fail
       go_loopg [26] xs.length (fun g v wr => ∃ k : Nat, k + g = xs.length ∧ v = .int .i64 k ∧ ZUpto codR xs k ∧ Below w.heap.size w wr)
       case atStart => exact ⟨0, by omega, rfl, ZUpto.zero _ _, Below.refl _ _⟩
       case round =>
        obtain ⟨k, hkg, rfl, hrel, hb⟩ := hrel
        have HR := Lib.hid hrel
        have HB := Lib.hid hb
        have HG := Lib.hid hkg
        clear hrel
        cases gk with
        | zero =>
          obtain rfl : k = xs.length := by omega
          have HV2 : Hid (r = 0) := Lib.hid (HV.out.trans (firstE_done HR.out))
          clear hkg hb
          go_wp2_with fail
          go_ret
          exact ⟨reti (natc HV2.out.symm), HB.out⟩
        | succ g =>
          have hlt : k < xs.length := by omega
          have e3 : decide ((k : Int) < (xs.length : Int)) = true := decide_eq_true (by omega)
          obtain ⟨x, hx⟩ : ∃ x, xs[k]? = some x := ⟨_, List.getElem?_eq_getElem hlt⟩
          obtain ⟨b, o, hA, hbB, kk⟩ := IL.at_ (HX.out.step hb) hx
          subst hA
          have j1 : (0 : Int) ≤ (k : Int) := by omega
          have j2 : (k : Int) < (xs.length : Int) := by omega
          have HC : Hid (∀ w1, Below w.heap.size w w1 → Calls Tryz.prog 44 #[.int .i64 x] w1 fun e w' => e = .returned (.int .i64 (codR x)) ∧ Below w1.heap.size w1 w') := Lib.hid (fun w1 _ => (checkCode_any x w1).mono fun e w3 h3 => ⟨h3.1, by rw [← h3.2]; exact Below.refl _ _⟩)
          have HS := Lib.hid (fun h0 : codR x = 0 => HR.out.succ hx h0)
          have HF := Lib.hid (fun h0 : codR x ≠ 0 => HV.out.trans (firstE_at HR.out hx h0))
          clear hx hkg hb
          generalize codR x = z at HC HS HF
          go_wp2_with fail
          refine (HC.out _ (by first | exact HB.out | exact HB.out.alloc HB.out.size _)).mono ?_
          rintro e w2 ⟨rfl, hb⟩
          have HB2 : Hid (Below w.heap.size w w2) := Lib.hid (stepB (by first | exact HB.out | exact HB.out.alloc HB.out.size _) hb)
          have hz2 : w.heap.size ≤ w2.heap.size := HB2.out.size
          clear hb
          by_cases hz : z = 0
          · have HS2 := Lib.hid (HS.out hz)
            subst hz
            clear HF HS
            go_wp2_with fail
            go_roundg g
            case measure => omega
            case rel => exact ⟨k + 1, by have := HG.out; omega, by go_num, HS2.out, HB2.out⟩
          · have HF2 := Lib.hid (HF.out hz)
            have q5 : ((z : Int) != 0) = true := by simp [hz]
            clear HF HS hz
            go_wp2_with fail
            go_ret
            exact ⟨reti (natc HF2.out.symm), HB2.out⟩
 · have HV : Hid (listR id xs codR = idR id) := Lib.hid (listR_id xs codR hi)
   generalize listR id xs codR = r at HV ⊢
   generalize idR id = j at H1 HV hi
   have q0 : ((j : Int) != 0) = true := by simp [hi]
   clear hi HX
   go_enter Tryz.func43, Tryz.ntmps43
   go_wp2_with fail
   refine (H1.out w).mono ?_
   rintro e w' ⟨rfl, rfl⟩
   go_wp2_with fail
   go_ret
   exact ⟨reti (natc HV.out.symm), Below.refl _ _⟩

end Go.Proofs.YtdkegoaflabjoaaGreatDoor
