/-
What the checks of the specification of packets answer, but for Check itself. Conditions: the packets read as data; lengths fit an int; texts fit a slice.
-/
import Derived.Test.YtdkegoaflabjoaaGreatDoorChkL
import Derived.Test.YtdkegoaflabjoaaGreatDoorSamR
set_option maxHeartbeats 4000000
set_option maxRecDepth 20000
namespace Go.Proofs.YtdkegoaflabjoaaGreatDoor
open Go.RowKit

theorem rIdent_any (n : Int) (w : World) : Calls Tryz.prog 29 #[.int .i64 n] w fun e w' => e = .returned (.int .i64 (idR n)) ∧ w = w' := by
 have HV : Hid (idR n = if n < 1 ∨ 65535 < n then 15 else 0) := Lib.hid rfl
 generalize idR n = r at HV ⊢
 by_cases h1 : n < 1
 · have HV2 : Hid (r = 15) := Lib.hid (by rw [HV.out]; simp [h1])
   have q1 : decide (n < 1) = true := decide_eq_true (by omega)
   clear HV h1
   go_enter Tryz.func29, Tryz.ntmps29
   go_wp2
   go_ret
   exact ⟨reti (natc HV2.out.symm), rfl⟩
 · by_cases h2 : 65535 < n
   · have HV2 : Hid (r = 15) := Lib.hid (by rw [HV.out]; simp [h2])
     have q1 : decide (n < 1) = false := decide_eq_false (by omega)
     have q2 : decide (65535 < n) = true := decide_eq_true (by omega)
     clear HV h1 h2
     go_enter Tryz.func29, Tryz.ntmps29
     go_wp2
     go_ret
     exact ⟨reti (natc HV2.out.symm), rfl⟩
   · have HV2 : Hid (r = 0) := Lib.hid (by rw [HV.out]; simp [h1, h2])
     have q1 : decide (n < 1) = false := decide_eq_false (by omega)
     have q2 : decide (65535 < n) = false := decide_eq_false (by omega)
     clear HV h1 h2
     go_enter Tryz.func29, Tryz.ntmps29
     go_wp2
     go_ret
     exact ⟨reti (natc HV2.out.symm), rfl⟩
/-- is a number an error code -/
def codeB (n : Int) : Bool := decide (0 ≤ n) && decide (n ≤ 29)
theorem codR_B (n : Int) : codR n = if codeB n = true then 0 else 1 := by
 unfold codR codeB
 by_cases h1 : n < 0
 · simp [h1]; omega
 · by_cases h2 : 29 < n
   · simp [h2]
   · rw [if_neg (by omega), if_pos (by simp; omega)]
theorem rCode_any (n : Int) (w : World) : Calls Tryz.prog 28 #[.int .i64 n] w fun e w' => e = .returned (.bool (codeB n)) ∧ w = w' := by
 by_cases h : 0 ≤ n
 · have q : decide (0 ≤ n) = true := decide_eq_true h
   have HV : Hid (codeB n = decide (n ≤ 29)) := Lib.hid (by unfold codeB; rw [q]; rfl)
   clear h
   go_enter Tryz.func28, Tryz.ntmps28
   go_wp2
   go_ret
   exact ⟨retb HV.out.symm, rfl⟩
 · have q : decide (0 ≤ n) = false := decide_eq_false h
   have HV : Hid (codeB n = false) := Lib.hid (by unfold codeB; rw [q]; rfl)
   clear h
   go_enter Tryz.func28, Tryz.ntmps28
   go_wp2
   go_ret
   exact ⟨retb HV.out.symm, rfl⟩
theorem rCountL_any (n : Nat) (w : World) : Calls Tryz.prog 30 #[.int .i64 n] w fun e w' => e = .returned (.int .i64 (lenR n)) ∧ w = w' := by
 have HV : Hid (lenR n = if n = 0 then 1 else if 32 < n then 5 else 0) := Lib.hid rfl
 generalize lenR n = r at HV ⊢
 by_cases h0 : n = 0
 · have HV2 : Hid (r = 1) := Lib.hid (by rw [HV.out]; simp [h0])
   have q0 : ((n : Int) == 0) = true := by rw [h0]; rfl
   have q0' : (n == 0) = true := by rw [h0]; rfl
   clear HV h0
   go_enter Tryz.func30, Tryz.ntmps30
   go_wp2
   go_ret
   exact ⟨reti (natc HV2.out.symm), rfl⟩
 · have q0 : ((n : Int) == 0) = false := beq_eq_false_iff_ne.2 (by omega)
   have q0' : (n == 0) = false := beq_eq_false_iff_ne.2 h0
   by_cases h1 : 32 < n
   · have HV2 : Hid (r = 5) := Lib.hid (by rw [HV.out]; simp [h0, h1])
     have q1 : decide ((32 : Int) < (n : Int)) = true := decide_eq_true (by omega)
     have q1' : decide (32 < n) = true := decide_eq_true h1
     clear HV h0 h1
     go_enter Tryz.func30, Tryz.ntmps30
     go_wp2
     go_ret
     exact ⟨reti (natc HV2.out.symm), rfl⟩
   · have HV2 : Hid (r = 0) := Lib.hid (by rw [HV.out]; simp [h0, h1])
     have q1 : decide ((32 : Int) < (n : Int)) = false := decide_eq_false (by omega)
     have q1' : decide (32 < n) = false := decide_eq_false h1
     clear HV h0 h1
     go_enter Tryz.func30, Tryz.ntmps30
     go_wp2
     go_ret
     exact ⟨reti (natc HV2.out.symm), rfl⟩
theorem begins_any (s : ByteArray) (w : World) : Calls Tryz.prog 99 #[.string s, .string ⟨#[36, 115, 104, 97, 114, 101, 47]⟩] w fun e w' => e = .returned (.bool (hasSh s)) ∧ w = w' := S1.rBegins_any s ⟨#[36, 115, 104, 97, 114, 101, 47]⟩ w
theorem wanted_parts (s : ByteArray) : wantedR s = (shOkB s || (S1.T.filterL (S1.dl s) && !hasSh s)) := by
 unfold wantedR
 cases hh : hasSh s with
 | true => simp
 | false =>
   have : shOkB s = false := by
    cases ho : shOkB s with
    | false => rfl
    | true => rw [shOk_has ho] at hh; cases hh
   simp [this]
theorem rWanted_any (s : ByteArray) (w : World) (hz : s.size ≤ 140737488355328) : Calls Tryz.prog 69 #[.string s] w fun e w' => e = .returned (.bool (wantedR s)) ∧ Below w.heap.size w w' := by
 have C1 := S1.rShared_any s w hz
 have HV := Lib.hid (wanted_parts s)
 have C2 := Lib.hid (fun w => S1.rFilter_any s w)
 have C3 := Lib.hid (fun w => begins_any s w)
 unfold S1.shRet at C1
 rw [show S1.shOk (S1.dl s) = shOkB s from rfl] at C1
 generalize S1.bs (S1.shG (S1.dl s)) = g at C1
 generalize S1.bs (S1.shF (S1.dl s)) = f at C1
 generalize shOkB s = ok at C1 HV
 generalize S1.T.filterL (S1.dl s) = fl at C2 HV
 generalize hasSh s = hs at C3 HV
 generalize wantedR s = r at HV ⊢
 have H1 := Lib.hid C1
 clear C1 hz
 cases ok with
 | true =>
   go_enter Tryz.func69, Tryz.ntmps69
   go_wp2_with fail
   refine H1.out.mono ?_
   rintro e w2 ⟨rfl, hb⟩
   have HB2 := Lib.hid hb
   clear hb
   go_wp2_with fail
   go_ret
   exact ⟨retb (by rw [HV.out]; simp), HB2.out⟩
 | false =>
   cases fl with
   | false =>
     go_enter Tryz.func69, Tryz.ntmps69
     go_wp2_with fail
     refine H1.out.mono ?_
     rintro e w2 ⟨rfl, hb⟩
     have HB2 := Lib.hid hb
     clear hb
     go_wp2_with fail
     refine (C2.out w2).mono ?_
     rintro e w3 ⟨rfl, hb⟩
     have HB3 := Lib.hid (stepB HB2.out hb)
     clear hb
     go_wp2_with fail
     go_ret
     exact ⟨retb (by rw [HV.out]; simp), HB3.out⟩
   | true =>
     go_enter Tryz.func69, Tryz.ntmps69
     go_wp2_with fail
     refine H1.out.mono ?_
     rintro e w2 ⟨rfl, hb⟩
     have HB2 := Lib.hid hb
     clear hb
     go_wp2_with fail
     refine (C2.out w2).mono ?_
     rintro e w3 ⟨rfl, hb⟩
     have HB3 := Lib.hid (stepB HB2.out hb)
     clear hb
     go_wp2_with fail
     refine (C3.out w3).mono ?_
     rintro e w' ⟨rfl, rfl⟩
     go_wp2_with fail
     go_ret
     exact ⟨retb (by rw [HV.out]; simp), HB3.out⟩
theorem sub_parts (x : SB) : subR x = if wantedR x.1 = false then 13 else if x.2.1 < 0 ∨ 2 < x.2.1 then 14 else if x.2.2 = true ∧ shOkB x.1 = true then 28 else 0 := by
 unfold subR
 cases h : wantedR x.1 with
 | false => simp
 | true => rw [wanted_sh h]
theorem rSub_any (x : SB) (w : World) (hz : x.1.size ≤ 140737488355328) : Calls Tryz.prog 68 #[.agg #[.string x.1, .int .i64 x.2.1, .bool x.2.2]] w fun e w' => e = .returned (.int .i64 (subR x)) ∧ Below w.heap.size w w' := by
 have HV := Lib.hid (sub_parts x)
 generalize subR x = r at HV ⊢
 obtain ⟨s, l, nl⟩ := x
 dsimp only at hz HV ⊢
 have C1 := Lib.hid (fun w => rWanted_any s w hz)
 have C2 : Hid (∀ w, Calls Tryz.prog 97 #[.string s] w fun e w' => e = S1.shRet (S1.dl s) ∧ Below w.heap.size w w') := Lib.hid (fun w => S1.rShared_any s w hz)
 unfold S1.shRet at C2
 rw [show S1.shOk (S1.dl s) = shOkB s from rfl] at C2
 generalize S1.bs (S1.shG (S1.dl s)) = g at C2
 generalize S1.bs (S1.shF (S1.dl s)) = f at C2
 generalize shOkB s = ok at C2 HV
 generalize wantedR s = wn at C1 HV
 have hb1 : Below w.heap.size w (w.alloc (.cells #[.string s, .int .i64 l, .bool nl] 49)) := belA _ _
 have hz1 : w.heap.size < (w.alloc (.cells #[.string s, .int .i64 l, .bool nl] 49)).heap.size := by simp
 have HB1 := Lib.hid hb1
 clear hz hb1
 cases wn with
 | false =>
   have HV2 : Hid (r = 13) := Lib.hid (by rw [HV.out]; simp)
   go_enter Tryz.func68, Tryz.ntmps68
   go_wp2_with fail
   refine (C1.out _).mono ?_
   rintro e w2 ⟨rfl, hb⟩
   obtain ⟨hc2, hf2⟩ := bcell hb
   have hz2 : w.heap.size < w2.heap.size := Nat.lt_of_lt_of_le hz1 hb.size
   have HB2 := Lib.hid (stepB HB1.out hb)
   clear hb
   go_wp2_with fail
   go_ret
   exact ⟨reti (natc HV2.out.symm), HB2.out⟩
 | true =>
   by_cases h1 : l < 0
   · have HV2 : Hid (r = 14) := Lib.hid (by rw [HV.out]; simp [h1])
     have q1 : decide (l < 0) = true := decide_eq_true (by omega)
     clear HV h1
     go_enter Tryz.func68, Tryz.ntmps68
     go_wp2_with fail
     refine (C1.out _).mono ?_
     rintro e w2 ⟨rfl, hb⟩
     obtain ⟨hc2, hf2⟩ := bcell hb
     have hz2 : w.heap.size < w2.heap.size := Nat.lt_of_lt_of_le hz1 hb.size
     have HB2 := Lib.hid (stepB HB1.out hb)
     clear hb
     go_wp2_with fail
     go_ret
     exact ⟨reti (natc HV2.out.symm), HB2.out⟩
   · by_cases h2 : 2 < l
     · have HV2 : Hid (r = 14) := Lib.hid (by rw [HV.out]; simp [h2])
       have q1 : decide (l < 0) = false := decide_eq_false (by omega)
       have q2 : decide (2 < l) = true := decide_eq_true (by omega)
       clear HV h1 h2
       go_enter Tryz.func68, Tryz.ntmps68
       go_wp2_with fail
       refine (C1.out _).mono ?_
       rintro e w2 ⟨rfl, hb⟩
       obtain ⟨hc2, hf2⟩ := bcell hb
       have hz2 : w.heap.size < w2.heap.size := Nat.lt_of_lt_of_le hz1 hb.size
       have HB2 := Lib.hid (stepB HB1.out hb)
       clear hb
       go_wp2_with fail
       go_ret
       exact ⟨reti (natc HV2.out.symm), HB2.out⟩
     · have HV2 : Hid (r = if nl = true ∧ ok = true then 28 else 0) := Lib.hid (by rw [HV.out]; simp [h1, h2])
       have q1 : decide (l < 0) = false := decide_eq_false (by omega)
       have q2 : decide (2 < l) = false := decide_eq_false (by omega)
       clear HV h1 h2
       cases nl
       all_goals cases ok
       all_goals
        go_enter Tryz.func68, Tryz.ntmps68
        go_wp2_with fail
        refine (C1.out _).mono ?_
        rintro e w2 ⟨rfl, hb⟩
        obtain ⟨hc2, hf2⟩ := bcell hb
        have hz2 : w.heap.size < w2.heap.size := Nat.lt_of_lt_of_le hz1 hb.size
        have HB2 := Lib.hid (stepB HB1.out hb)
        clear hb
        go_wp2_with fail
        refine (C2.out w2).mono ?_
        rintro e w3 ⟨rfl, hb⟩
        obtain ⟨hc3, hf3⟩ := bcell hb
        have HB3 := Lib.hid (stepB HB2.out hb)
        clear hb
        go_wp2_with fail
        go_ret
        exact ⟨reti (natc (by rw [HV2.out]; simp)), HB3.out⟩
theorem msgZ : msgV Msg.zero none 0 = .agg #[.string ⟨#[]⟩, .string ⟨#[]⟩, .int .i64 0, .bool false, .int .i64 0, .int .i64 0, .string ⟨#[]⟩, .int .i64 0, .slice none 0 0] := rfl
/-- the sizes of a message's texts -/
structure MTx (m : Msg) : Prop where
 t : m.topic.size ≤ 9223372036854775807
 f : m.frm.size ≤ 9223372036854775807
 k : ∀ x ∈ m.props, x.1.size ≤ 9223372036854775807
theorem rWill_any (p : Pkt) (a : PA) (w : World) (h : PL w w.heap.size a.v p.wmsg.props) (hn : p.wmsg.props.length ≤ 9223372036854775806) (hm : MTx p.wmsg) :
 Calls Tryz.prog 66 #[wlV p a] w fun e w' => e = .returned (.int .i64 (willR p.wset p.wdelay p.wmsg)) ∧ Below w.heap.size w w' := by
 unfold wlV
 obtain ⟨w1, hw1⟩ : ∃ w1, w1 = w.alloc (.cells (wlC p a).toArray 33) := ⟨_, rfl⟩
 have hb1 : Below w.heap.size w w1 := by rw [hw1]; exact belA _ _
 have hm1 : MT 33 w1 w.heap.size (wlC p a) := by rw [hw1]; exact MT.new w _ _
 have C1 := rSame_any p.wmsg Msg.zero a.v none a.vc 0 w1 (h.step hb1) (GL.nil _ _ _) hn
 have C3 := rCheck_any p.wmsg a.v a.vc w1 (h.step hb1) hm.t hm.f hm.k
 have c0 : w1.cell? ⟨w.heap.size, 0, none⟩ = some (.bool p.wset) := hm1.cell 0
 have c1 : w1.cell? ⟨w.heap.size, 1, none⟩ = some (.int .i64 p.wdelay) := hm1.cell 1
 have HM := Lib.hid hm1
 have HB := Lib.hid hb1
 have HW := Lib.hid hw1
 rw [msgZ] at C1
 unfold sameM at C1
 have H3 := Lib.hid C3
 clear h hn hm hw1 hb1 hm1 C3
 have HV : Hid (willR p.wset p.wdelay p.wmsg = if p.wset = false then (if p.wdelay ≠ 0 ∨ p.wmsg ≠ Msg.zero then 28 else 0) else if p.wdelay < 0 ∨ 1099511627776 < p.wdelay then 1 else checkR p.wmsg) := Lib.hid rfl
 generalize willR p.wset p.wdelay p.wmsg = r at HV ⊢
 generalize p.wset = s at *
 generalize p.wdelay = d at *
 generalize checkR p.wmsg = k at *
 cases s
 · by_cases hd : d = 0
   · have q0 : (d != 0) = false := by rw [hd]; rfl
     by_cases hz : p.wmsg = Msg.zero
     · have HV2 : Hid (r = 0) := Lib.hid (by rw [HV.out]; simp [hd, hz])
       rw [decide_eq_true hz] at C1
       have H1 := Lib.hid C1
       clear C1 HV hd hz
       go_enter Tryz.func66, Tryz.ntmps66
       go_upto_region 1 with fail
       rw [← HW.out]
       go_wp2_with (refine wpList_load_part (by rfl) 31 _ rfl w.heap.size 2 9 rfl 33 (wlC p a) (0, 0) _ HM.out Tryz.underlying31 rfl info26 (by show 2 + 9 ≤ 11; decide) ?_)
       refine H1.out.mono ?_
       rintro e w2 ⟨rfl, hb⟩
       have HB2 := Lib.hid (stepB HB.out hb)
       clear hb
       go_wp2_with fail
       go_ret
       exact ⟨reti (natc HV2.out.symm), HB2.out⟩
     · have HV2 : Hid (r = 28) := Lib.hid (by rw [HV.out]; simp [hz])
       rw [decide_eq_false hz] at C1
       have H1 := Lib.hid C1
       clear C1 HV hd hz
       go_enter Tryz.func66, Tryz.ntmps66
       go_upto_region 1 with fail
       rw [← HW.out]
       go_wp2_with (refine wpList_load_part (by rfl) 31 _ rfl w.heap.size 2 9 rfl 33 (wlC p a) (0, 0) _ HM.out Tryz.underlying31 rfl info26 (by show 2 + 9 ≤ 11; decide) ?_)
       refine H1.out.mono ?_
       rintro e w2 ⟨rfl, hb⟩
       have HB2 := Lib.hid (stepB HB.out hb)
       clear hb
       go_wp2_with fail
       go_ret
       exact ⟨reti (natc HV2.out.symm), HB2.out⟩
   · have HV2 : Hid (r = 28) := Lib.hid (by rw [HV.out]; simp [hd])
     have q0 : (d != 0) = true := by simp [hd]
     clear C1 HV hd
     go_enter Tryz.func66, Tryz.ntmps66
     go_upto_region 1 with fail
     rw [← HW.out]
     go_wp2_with fail
     go_ret
     exact ⟨reti (natc HV2.out.symm), HB.out⟩
 · clear C1
   by_cases h1 : d < 0
   · have HV2 : Hid (r = 1) := Lib.hid (by rw [HV.out]; simp [h1])
     have q1 : decide (d < 0) = true := decide_eq_true (by omega)
     clear HV h1
     go_enter Tryz.func66, Tryz.ntmps66
     go_upto_region 1 with fail
     rw [← HW.out]
     go_wp2_with fail
     go_ret
     exact ⟨reti (natc HV2.out.symm), HB.out⟩
   · by_cases h2 : 1099511627776 < d
     · have HV2 : Hid (r = 1) := Lib.hid (by rw [HV.out]; simp [h2])
       have q1 : decide (d < 0) = false := decide_eq_false (by omega)
       have q2 : decide (1099511627776 < d) = true := decide_eq_true (by omega)
       clear HV h1 h2
       go_enter Tryz.func66, Tryz.ntmps66
       go_upto_region 1 with fail
       rw [← HW.out]
       go_wp2_with fail
       go_ret
       exact ⟨reti (natc HV2.out.symm), HB.out⟩
     · have HV2 : Hid (r = k) := Lib.hid (by rw [HV.out, if_neg (by decide), if_neg (by omega)])
       have q1 : decide (d < 0) = false := decide_eq_false (by omega)
       have q2 : decide (1099511627776 < d) = false := decide_eq_false (by omega)
       clear HV h1 h2
       go_enter Tryz.func66, Tryz.ntmps66
       go_upto_region 1 with fail
       rw [← HW.out]
       go_wp2_with (refine wpList_load_part (by rfl) 31 _ rfl w.heap.size 2 9 rfl 33 (wlC p a) (0, 0) _ HM.out Tryz.underlying31 rfl info26 (by show 2 + 9 ≤ 11; decide) ?_)
       refine H3.out.mono ?_
       rintro e w2 ⟨rfl, hb⟩
       have HB2 := Lib.hid (stepB HB.out hb)
       clear hb
       go_wp2_with fail
       go_ret
       exact ⟨reti (natc HV2.out.symm), HB2.out⟩

end Go.Proofs.YtdkegoaflabjoaaGreatDoor
