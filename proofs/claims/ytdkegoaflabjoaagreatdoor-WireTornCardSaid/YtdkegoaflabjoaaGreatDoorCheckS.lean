/-
What Used of the specification hands back: the packet with the fields alone that its kind uses. Conditions: none.
What Check of the specification answers for packets. Conditions: the packet reads as data; lengths fit an int; texts fit a slice.
What Check of the specification answers: whether a packet is valid, or its first error. Conditions: the packet reads as data; lengths fit an int; texts fit a slice.
-/
import Derived.Test.YtdkegoaflabjoaaGreatDoorUsedRa
import Derived.Test.YtdkegoaflabjoaaGreatDoorUsedRb
import Derived.Test.YtdkegoaflabjoaaGreatDoorUsedRc
import Derived.Test.YtdkegoaflabjoaaGreatDoorUsedRd
import Derived.Test.YtdkegoaflabjoaaGreatDoorChkR
import Derived.Test.YtdkegoaflabjoaaGreatDoorBigZ
import Derived.Test.YtdkegoaflabjoaaGreatDoorCheckP
set_option maxHeartbeats 8000000
set_option maxRecDepth 50000
namespace Go.Proofs.YtdkegoaflabjoaaGreatDoor
open Go.RowKit

theorem rUsed_any (p : Pkt) (a : PA) (w : World) (h : 1 ≤ p.kind ∧ p.kind ≤ 14) : Calls Tryz.prog 25 #[pkV p a] w fun e w' => e = .returned (pkV (usedP p) (usedA p a)) ∧ Below w.heap.size w w' := by
 have hk : p.kind = 1 ∨ p.kind = 2 ∨ p.kind = 3 ∨ p.kind = 4 ∨ p.kind = 5 ∨ p.kind = 6 ∨ p.kind = 7 ∨ p.kind = 8 ∨ p.kind = 9 ∨ p.kind = 10 ∨ p.kind = 11 ∨ p.kind = 12 ∨ p.kind = 13 ∨ p.kind = 14 := by omega
 rcases hk with hk | hk | hk | hk | hk | hk | hk | hk | hk | hk | hk | hk | hk | hk
 · exact rUsed1 p a w hk
 · exact rUsed2 p a w hk
 · exact rUsed3 p a w hk
 · exact rUsed4 p a w hk
 · exact rUsed5 p a w hk
 · exact rUsed6 p a w hk
 · exact rUsed7 p a w hk
 · exact rUsed8 p a w hk
 · exact rUsed9 p a w hk
 · exact rUsed10 p a w hk
 · exact rUsed11 p a w hk
 · exact rUsed12 p a w hk
 · exact rUsed13 p a w hk
 · exact rUsed14 p a w hk

end Go.Proofs.YtdkegoaflabjoaaGreatDoor
namespace Go.Proofs.YtdkegoaflabjoaaGreatDoor
open Go.RowKit

theorem rConnect_any (p : Pkt) (a : PA) (w : World) (h : PL w w.heap.size a.v p.wmsg.props) (hn : p.wmsg.props.length ≤ 9223372036854775806) (hm : MTx p.wmsg) (hc : p.client.size ≤ 9223372036854775807) (hu : p.user.size ≤ 9223372036854775807) :
 Calls Tryz.prog 26 #[pkV p a] w fun e w' => e = .returned (.int .i64 (connR p)) ∧ Below w.heap.size w w' := by
 unfold pkV
 obtain ⟨w1, hw1, hb1, hm1⟩ := boxK w p a
 have hz1 : w.heap.size < w1.heap.size := hm1.lt
 have c12 : w1.cell? ⟨w.heap.size, 12, none⟩ = some (.string p.client) := hm1.cell 12
 have c13 : w1.cell? ⟨w.heap.size, 13, none⟩ = some (.string p.user) := hm1.cell 13
 have c15 : w1.cell? ⟨w.heap.size, 15, none⟩ = some (.int .i64 p.keep) := hm1.cell 15
 have c16 : w1.cell? ⟨w.heap.size, 16, none⟩ = some (.int .i64 p.expiry) := hm1.cell 16
 have c17 : w1.cell? ⟨w.heap.size, 17, none⟩ = some (.int .i64 p.window) := hm1.cell 17
 have HM1 := Lib.hid hm1
 have HB1 := Lib.hid hb1
 have HW1 := Lib.hid hw1
 have H1 : Hid (∀ w, Calls Tryz.prog 65 #[.string p.client] w fun e w' => e = .returned (.bool (nameR p.client)) ∧ w = w') := Lib.hid (fun w => S1.rName_any p.client w hc)
 have H2 : Hid (∀ w, Calls Tryz.prog 65 #[.string p.user] w fun e w' => e = .returned (.bool (nameR p.user)) ∧ w = w') := Lib.hid (fun w => S1.rName_any p.user w hu)
 have H6 : Hid (∀ w, PL w w.heap.size a.v p.wmsg.props → Calls Tryz.prog 66 #[wlV p a] w fun e w' => e = .returned (.int .i64 (willR p.wset p.wdelay p.wmsg)) ∧ Below w.heap.size w w') := Lib.hid (fun w h1 => rWill_any p a w h1 hn hm)
 have HP := Lib.hid h
 have HV := Lib.hid (conn_parts p)
 have q13 := empty_fact p.user
 unfold wlV at H6
 generalize connR p = r at HV ⊢
 generalize willR p.wset p.wdelay p.wmsg = k at H6 HV
 generalize emptyB p.user = u at q13 HV
 generalize nameR p.client = n1 at H1 HV
 generalize nameR p.user = n2 at H2 HV
 clear h hn hm hc hu hb1 hm1 hw1
 cases n1 with
 | false =>
   have HV2 : Hid (r = 11) := Lib.hid (by rw [HV.out]; simp)
   clear HV
   go_enter Tryz.func26, Tryz.ntmps26
   go_upto_region 1 with fail
   rw [← HW1.out]
   go_wp2_with fail
   refine (H1.out w1).mono ?_
   rintro e w' ⟨rfl, rfl⟩
   go_wp2_with fail
   go_ret
   exact ⟨reti (natc HV2.out.symm), HB1.out⟩
 | true =>
   cases u with
   | false =>
     cases n2 with
     | false =>
       have HV2 : Hid (r = 11) := Lib.hid (by rw [HV.out]; simp)
       clear HV
       go_enter Tryz.func26, Tryz.ntmps26
       go_upto_region 1 with fail
       rw [← HW1.out]
       go_wp2_with fail
       refine (H1.out w1).mono ?_
       rintro e w' ⟨rfl, rfl⟩
       go_wp2_with fail
       refine (H2.out w1).mono ?_
       rintro e w' ⟨rfl, rfl⟩
       go_wp2_with fail
       go_ret
       exact ⟨reti (natc HV2.out.symm), HB1.out⟩
     | true =>
       by_cases r0 : p.keep < 0
       · have HV2 : Hid (r = 1) := Lib.hid (by rw [HV.out, show within3 p.keep 0 1099511627776 = false from w3_no (by omega)]; simp)
         have q0 : decide (p.keep < 0) = true := decide_eq_true (by omega)
         clear HV r0
         go_enter Tryz.func26, Tryz.ntmps26
         go_upto_region 1 with fail
         rw [← HW1.out]
         go_wp2_with fail
         refine (H1.out w1).mono ?_
         rintro e w' ⟨rfl, rfl⟩
         go_wp2_with fail
         refine (H2.out w1).mono ?_
         rintro e w' ⟨rfl, rfl⟩
         go_wp2_with fail
         go_ret
         exact ⟨reti (natc HV2.out.symm), HB1.out⟩
       · skip
         by_cases r1 : 1099511627776 < p.keep
         · have HV2 : Hid (r = 1) := Lib.hid (by rw [HV.out, show within3 p.keep 0 1099511627776 = false from w3_no (by omega)]; simp)
           have q0 : decide (p.keep < 0) = false := decide_eq_false (by omega)
           have q1 : decide (1099511627776 < p.keep) = true := decide_eq_true (by omega)
           clear HV r0 r1
           go_enter Tryz.func26, Tryz.ntmps26
           go_upto_region 1 with fail
           rw [← HW1.out]
           go_wp2_with fail
           refine (H1.out w1).mono ?_
           rintro e w' ⟨rfl, rfl⟩
           go_wp2_with fail
           refine (H2.out w1).mono ?_
           rintro e w' ⟨rfl, rfl⟩
           go_wp2_with fail
           go_ret
           exact ⟨reti (natc HV2.out.symm), HB1.out⟩
         · skip
           by_cases r2 : p.expiry < 0
           · have HV2 : Hid (r = 1) := Lib.hid (by rw [HV.out, show within3 p.expiry 0 1099511627776 = false from w3_no (by omega)]; simp)
             have q0 : decide (p.keep < 0) = false := decide_eq_false (by omega)
             have q1 : decide (1099511627776 < p.keep) = false := decide_eq_false (by omega)
             have q2 : decide (p.expiry < 0) = true := decide_eq_true (by omega)
             clear HV r0 r1 r2
             go_enter Tryz.func26, Tryz.ntmps26
             go_upto_region 1 with fail
             rw [← HW1.out]
             go_wp2_with fail
             refine (H1.out w1).mono ?_
             rintro e w' ⟨rfl, rfl⟩
             go_wp2_with fail
             refine (H2.out w1).mono ?_
             rintro e w' ⟨rfl, rfl⟩
             go_wp2_with fail
             go_ret
             exact ⟨reti (natc HV2.out.symm), HB1.out⟩
           · skip
             by_cases r3 : 1099511627776 < p.expiry
             · have HV2 : Hid (r = 1) := Lib.hid (by rw [HV.out, show within3 p.expiry 0 1099511627776 = false from w3_no (by omega)]; simp)
               have q0 : decide (p.keep < 0) = false := decide_eq_false (by omega)
               have q1 : decide (1099511627776 < p.keep) = false := decide_eq_false (by omega)
               have q2 : decide (p.expiry < 0) = false := decide_eq_false (by omega)
               have q3 : decide (1099511627776 < p.expiry) = true := decide_eq_true (by omega)
               clear HV r0 r1 r2 r3
               go_enter Tryz.func26, Tryz.ntmps26
               go_upto_region 1 with fail
               rw [← HW1.out]
               go_wp2_with fail
               refine (H1.out w1).mono ?_
               rintro e w' ⟨rfl, rfl⟩
               go_wp2_with fail
               refine (H2.out w1).mono ?_
               rintro e w' ⟨rfl, rfl⟩
               go_wp2_with fail
               go_ret
               exact ⟨reti (natc HV2.out.symm), HB1.out⟩
             · skip
               by_cases r4 : p.window < 1
               · have HV2 : Hid (r = 1) := Lib.hid (by rw [HV.out, show within3 p.window 1 32 = false from w3_no (by omega)]; simp)
                 have q0 : decide (p.keep < 0) = false := decide_eq_false (by omega)
                 have q1 : decide (1099511627776 < p.keep) = false := decide_eq_false (by omega)
                 have q2 : decide (p.expiry < 0) = false := decide_eq_false (by omega)
                 have q3 : decide (1099511627776 < p.expiry) = false := decide_eq_false (by omega)
                 have q4 : decide (p.window < 1) = true := decide_eq_true (by omega)
                 clear HV r0 r1 r2 r3 r4
                 go_enter Tryz.func26, Tryz.ntmps26
                 go_upto_region 1 with fail
                 rw [← HW1.out]
                 go_wp2_with fail
                 refine (H1.out w1).mono ?_
                 rintro e w' ⟨rfl, rfl⟩
                 go_wp2_with fail
                 refine (H2.out w1).mono ?_
                 rintro e w' ⟨rfl, rfl⟩
                 go_wp2_with fail
                 go_ret
                 exact ⟨reti (natc HV2.out.symm), HB1.out⟩
               · skip
                 by_cases r5 : 32 < p.window
                 · have HV2 : Hid (r = 1) := Lib.hid (by rw [HV.out, show within3 p.window 1 32 = false from w3_no (by omega)]; simp)
                   have q0 : decide (p.keep < 0) = false := decide_eq_false (by omega)
                   have q1 : decide (1099511627776 < p.keep) = false := decide_eq_false (by omega)
                   have q2 : decide (p.expiry < 0) = false := decide_eq_false (by omega)
                   have q3 : decide (1099511627776 < p.expiry) = false := decide_eq_false (by omega)
                   have q4 : decide (p.window < 1) = false := decide_eq_false (by omega)
                   have q5 : decide (32 < p.window) = true := decide_eq_true (by omega)
                   clear HV r0 r1 r2 r3 r4 r5
                   go_enter Tryz.func26, Tryz.ntmps26
                   go_upto_region 1 with fail
                   rw [← HW1.out]
                   go_wp2_with fail
                   refine (H1.out w1).mono ?_
                   rintro e w' ⟨rfl, rfl⟩
                   go_wp2_with fail
                   refine (H2.out w1).mono ?_
                   rintro e w' ⟨rfl, rfl⟩
                   go_wp2_with fail
                   go_ret
                   exact ⟨reti (natc HV2.out.symm), HB1.out⟩
                 · skip
                   have HV2 : Hid (r = k) := Lib.hid (by rw [HV.out, show within3 p.keep 0 1099511627776 = true from w3_yes (by omega), show within3 p.expiry 0 1099511627776 = true from w3_yes (by omega), show within3 p.window 1 32 = true from w3_yes (by omega)]; simp)
                   have q0 : decide (p.keep < 0) = false := decide_eq_false (by omega)
                   have q1 : decide (1099511627776 < p.keep) = false := decide_eq_false (by omega)
                   have q2 : decide (p.expiry < 0) = false := decide_eq_false (by omega)
                   have q3 : decide (1099511627776 < p.expiry) = false := decide_eq_false (by omega)
                   have q4 : decide (p.window < 1) = false := decide_eq_false (by omega)
                   have q5 : decide (32 < p.window) = false := decide_eq_false (by omega)
                   clear HV r0 r1 r2 r3 r4 r5
                   go_enter Tryz.func26, Tryz.ntmps26
                   go_upto_region 1 with fail
                   rw [← HW1.out]
                   go_wp2_with fail
                   refine (H1.out w1).mono ?_
                   rintro e w' ⟨rfl, rfl⟩
                   go_wp2_with fail
                   refine (H2.out w1).mono ?_
                   rintro e w' ⟨rfl, rfl⟩
                   go_wp2_with (refine wpList_load_part (by rfl) 33 _ rfl w.heap.size 18 11 rfl 38 (pkC p a) (0, 0) _ HM1.out Tryz.underlying33 rfl info28 (by show 18 + 11 ≤ 34; decide) ?_)
                   refine (H6.out w1 (HP.out.step HB1.out)).mono ?_
                   rintro e w2 ⟨rfl, hb⟩
                   have HM2 := Lib.hid (MT.step HM1.out hb)
                   have HB2 := Lib.hid (stepB HB1.out hb)
                   clear hb
                   go_wp2_with fail
                   go_ret
                   exact ⟨reti (natc HV2.out.symm), HB2.out⟩
   | true =>
     by_cases r0 : p.keep < 0
     · have HV2 : Hid (r = 1) := Lib.hid (by rw [HV.out, show within3 p.keep 0 1099511627776 = false from w3_no (by omega)]; simp)
       have q0 : decide (p.keep < 0) = true := decide_eq_true (by omega)
       clear HV r0
       go_enter Tryz.func26, Tryz.ntmps26
       go_upto_region 1 with fail
       rw [← HW1.out]
       go_wp2_with fail
       refine (H1.out w1).mono ?_
       rintro e w' ⟨rfl, rfl⟩
       go_wp2_with fail
       go_ret
       exact ⟨reti (natc HV2.out.symm), HB1.out⟩
     · skip
       by_cases r1 : 1099511627776 < p.keep
       · have HV2 : Hid (r = 1) := Lib.hid (by rw [HV.out, show within3 p.keep 0 1099511627776 = false from w3_no (by omega)]; simp)
         have q0 : decide (p.keep < 0) = false := decide_eq_false (by omega)
         have q1 : decide (1099511627776 < p.keep) = true := decide_eq_true (by omega)
         clear HV r0 r1
         go_enter Tryz.func26, Tryz.ntmps26
         go_upto_region 1 with fail
         rw [← HW1.out]
         go_wp2_with fail
         refine (H1.out w1).mono ?_
         rintro e w' ⟨rfl, rfl⟩
         go_wp2_with fail
         go_ret
         exact ⟨reti (natc HV2.out.symm), HB1.out⟩
       · skip
         by_cases r2 : p.expiry < 0
         · have HV2 : Hid (r = 1) := Lib.hid (by rw [HV.out, show within3 p.expiry 0 1099511627776 = false from w3_no (by omega)]; simp)
           have q0 : decide (p.keep < 0) = false := decide_eq_false (by omega)
           have q1 : decide (1099511627776 < p.keep) = false := decide_eq_false (by omega)
           have q2 : decide (p.expiry < 0) = true := decide_eq_true (by omega)
           clear HV r0 r1 r2
           go_enter Tryz.func26, Tryz.ntmps26
           go_upto_region 1 with fail
           rw [← HW1.out]
           go_wp2_with fail
           refine (H1.out w1).mono ?_
           rintro e w' ⟨rfl, rfl⟩
           go_wp2_with fail
           go_ret
           exact ⟨reti (natc HV2.out.symm), HB1.out⟩
         · skip
           by_cases r3 : 1099511627776 < p.expiry
           · have HV2 : Hid (r = 1) := Lib.hid (by rw [HV.out, show within3 p.expiry 0 1099511627776 = false from w3_no (by omega)]; simp)
             have q0 : decide (p.keep < 0) = false := decide_eq_false (by omega)
             have q1 : decide (1099511627776 < p.keep) = false := decide_eq_false (by omega)
             have q2 : decide (p.expiry < 0) = false := decide_eq_false (by omega)
             have q3 : decide (1099511627776 < p.expiry) = true := decide_eq_true (by omega)
             clear HV r0 r1 r2 r3
             go_enter Tryz.func26, Tryz.ntmps26
             go_upto_region 1 with fail
             rw [← HW1.out]
             go_wp2_with fail
             refine (H1.out w1).mono ?_
             rintro e w' ⟨rfl, rfl⟩
             go_wp2_with fail
             go_ret
             exact ⟨reti (natc HV2.out.symm), HB1.out⟩
           · skip
             by_cases r4 : p.window < 1
             · have HV2 : Hid (r = 1) := Lib.hid (by rw [HV.out, show within3 p.window 1 32 = false from w3_no (by omega)]; simp)
               have q0 : decide (p.keep < 0) = false := decide_eq_false (by omega)
               have q1 : decide (1099511627776 < p.keep) = false := decide_eq_false (by omega)
               have q2 : decide (p.expiry < 0) = false := decide_eq_false (by omega)
               have q3 : decide (1099511627776 < p.expiry) = false := decide_eq_false (by omega)
               have q4 : decide (p.window < 1) = true := decide_eq_true (by omega)
               clear HV r0 r1 r2 r3 r4
               go_enter Tryz.func26, Tryz.ntmps26
               go_upto_region 1 with fail
               rw [← HW1.out]
               go_wp2_with fail
               refine (H1.out w1).mono ?_
               rintro e w' ⟨rfl, rfl⟩
               go_wp2_with fail
               go_ret
               exact ⟨reti (natc HV2.out.symm), HB1.out⟩
             · skip
               by_cases r5 : 32 < p.window
               · have HV2 : Hid (r = 1) := Lib.hid (by rw [HV.out, show within3 p.window 1 32 = false from w3_no (by omega)]; simp)
                 have q0 : decide (p.keep < 0) = false := decide_eq_false (by omega)
                 have q1 : decide (1099511627776 < p.keep) = false := decide_eq_false (by omega)
                 have q2 : decide (p.expiry < 0) = false := decide_eq_false (by omega)
                 have q3 : decide (1099511627776 < p.expiry) = false := decide_eq_false (by omega)
                 have q4 : decide (p.window < 1) = false := decide_eq_false (by omega)
                 have q5 : decide (32 < p.window) = true := decide_eq_true (by omega)
                 clear HV r0 r1 r2 r3 r4 r5
                 go_enter Tryz.func26, Tryz.ntmps26
                 go_upto_region 1 with fail
                 rw [← HW1.out]
                 go_wp2_with fail
                 refine (H1.out w1).mono ?_
                 rintro e w' ⟨rfl, rfl⟩
                 go_wp2_with fail
                 go_ret
                 exact ⟨reti (natc HV2.out.symm), HB1.out⟩
               · skip
                 have HV2 : Hid (r = k) := Lib.hid (by rw [HV.out, show within3 p.keep 0 1099511627776 = true from w3_yes (by omega), show within3 p.expiry 0 1099511627776 = true from w3_yes (by omega), show within3 p.window 1 32 = true from w3_yes (by omega)]; simp)
                 have q0 : decide (p.keep < 0) = false := decide_eq_false (by omega)
                 have q1 : decide (1099511627776 < p.keep) = false := decide_eq_false (by omega)
                 have q2 : decide (p.expiry < 0) = false := decide_eq_false (by omega)
                 have q3 : decide (1099511627776 < p.expiry) = false := decide_eq_false (by omega)
                 have q4 : decide (p.window < 1) = false := decide_eq_false (by omega)
                 have q5 : decide (32 < p.window) = false := decide_eq_false (by omega)
                 clear HV r0 r1 r2 r3 r4 r5
                 go_enter Tryz.func26, Tryz.ntmps26
                 go_upto_region 1 with fail
                 rw [← HW1.out]
                 go_wp2_with fail
                 refine (H1.out w1).mono ?_
                 rintro e w' ⟨rfl, rfl⟩
                 go_wp2_with (refine wpList_load_part (by rfl) 33 _ rfl w.heap.size 18 11 rfl 38 (pkC p a) (0, 0) _ HM1.out Tryz.underlying33 rfl info28 (by show 18 + 11 ≤ 34; decide) ?_)
                 refine (H6.out w1 (HP.out.step HB1.out)).mono ?_
                 rintro e w2 ⟨rfl, hb⟩
                 have HM2 := Lib.hid (MT.step HM1.out hb)
                 have HB2 := Lib.hid (stepB HB1.out hb)
                 clear hb
                 go_wp2_with fail
                 go_ret
                 exact ⟨reti (natc HV2.out.symm), HB2.out⟩
theorem check_level {m : Msg} (h : checkR m = 0) : 0 ≤ m.level ∧ m.level ≤ 2 := by
 unfold checkR at h
 split at h
 · cases h
 split at h
 · cases h
 split at h
 · cases h
 · omega
theorem rPublish_any (p : Pkt) (a : PA) (w : World) (h : PL w w.heap.size a.m p.msg.props) (hm : MTx p.msg) : Calls Tryz.prog 27 #[pkV p a] w fun e w' => e = .returned (.int .i64 (pubR p)) ∧ Below w.heap.size w w' := by
 unfold pkV
 obtain ⟨w1, hw1, hb1, hm1⟩ := boxK w p a
 have hz1 : w.heap.size < w1.heap.size := hm1.lt
 have c1 : w1.cell? ⟨w.heap.size, 1, none⟩ = some (.int .i64 p.id) := hm1.cell 1
 have c2 : w1.cell? ⟨w.heap.size, 2, none⟩ = some (.bool p.dup) := hm1.cell 2
 have c5 : w1.cell? ⟨w.heap.size, 5, none⟩ = some (.int .i64 p.msg.level) := hm1.cell 5
 have HM1 := Lib.hid hm1
 have HB1 := Lib.hid hb1
 have HW1 := Lib.hid hw1
 have H1 : Hid (∀ w, PL w w.heap.size a.m p.msg.props → Calls Tryz.prog 67 #[msgV p.msg a.m a.mc] w fun e w' => e = .returned (.int .i64 (checkR p.msg)) ∧ Below w.heap.size w w') := Lib.hid (fun w h2 => rCheck_any p.msg a.m a.mc w h2 hm.t hm.f hm.k)
 have H2 := Lib.hid (fun w => rIdent_any p.id w)
 have HP := Lib.hid h
 have HV : Hid (pubR p = if checkR p.msg ≠ 0 then checkR p.msg else if 0 < p.msg.level then idR p.id else if p.id ≠ 0 then 15 else if p.dup = true then 28 else 0) := Lib.hid rfl
 have HL := Lib.hid (@check_level p.msg)
 generalize pubR p = r at HV ⊢
 generalize checkR p.msg = k at H1 HV HL
 generalize idR p.id = j at H2 HV
 generalize p.dup = b at c2 HV
 clear h hm hb1 hm1 hw1
 by_cases h0 : k = 0
 · subst h0
   have hl0 := (HL.out rfl).1
   by_cases hl : p.msg.level = 0
   · have q0 : (p.msg.level == 0) = true := by rw [hl]; rfl
     by_cases hi : p.id = 0
     · have q1 : (p.id != 0) = false := by rw [hi]; rfl
       cases b with
       | false =>
         have HV2 : Hid (r = 0) := Lib.hid (by rw [HV.out]; simp [hl, hi])
         clear HV hl hi hl0
         go_enter Tryz.func27, Tryz.ntmps27
         go_upto_region 1 with fail
         rw [← HW1.out]
         go_wp2_with (refine wpList_load_part (by rfl) 31 _ rfl w.heap.size 3 9 rfl 38 (pkC p a) (0, 0) _ HM1.out Tryz.underlying31 rfl info26 (by show 3 + 9 ≤ 34; decide) ?_)
         refine (H1.out w1 (HP.out.step HB1.out)).mono ?_
         rintro e w2 ⟨rfl, hb⟩
         obtain ⟨hc2, hf2⟩ := bcell hb
         have hz2 : w.heap.size < w2.heap.size := Nat.lt_of_lt_of_le hz1 hb.size
         have HM2 := Lib.hid (MT.step HM1.out hb)
         have HB2 := Lib.hid (stepB HB1.out hb)
         clear hb
         go_wp2_with fail
         go_ret
         exact ⟨reti (natc HV2.out.symm), HB2.out⟩
       | true =>
         have HV2 : Hid (r = 28) := Lib.hid (by rw [HV.out]; simp [hl, hi])
         clear HV hl hi hl0
         go_enter Tryz.func27, Tryz.ntmps27
         go_upto_region 1 with fail
         rw [← HW1.out]
         go_wp2_with (refine wpList_load_part (by rfl) 31 _ rfl w.heap.size 3 9 rfl 38 (pkC p a) (0, 0) _ HM1.out Tryz.underlying31 rfl info26 (by show 3 + 9 ≤ 34; decide) ?_)
         refine (H1.out w1 (HP.out.step HB1.out)).mono ?_
         rintro e w2 ⟨rfl, hb⟩
         obtain ⟨hc2, hf2⟩ := bcell hb
         have hz2 : w.heap.size < w2.heap.size := Nat.lt_of_lt_of_le hz1 hb.size
         have HM2 := Lib.hid (MT.step HM1.out hb)
         have HB2 := Lib.hid (stepB HB1.out hb)
         clear hb
         go_wp2_with fail
         go_ret
         exact ⟨reti (natc HV2.out.symm), HB2.out⟩
     · have q1 : (p.id != 0) = true := by simp [hi]
       have HV2 : Hid (r = 15) := Lib.hid (by rw [HV.out]; simp [hl, hi])
       clear HV hl hi hl0
       go_enter Tryz.func27, Tryz.ntmps27
       go_upto_region 1 with fail
       rw [← HW1.out]
       go_wp2_with (refine wpList_load_part (by rfl) 31 _ rfl w.heap.size 3 9 rfl 38 (pkC p a) (0, 0) _ HM1.out Tryz.underlying31 rfl info26 (by show 3 + 9 ≤ 34; decide) ?_)
       refine (H1.out w1 (HP.out.step HB1.out)).mono ?_
       rintro e w2 ⟨rfl, hb⟩
       obtain ⟨hc2, hf2⟩ := bcell hb
       have hz2 : w.heap.size < w2.heap.size := Nat.lt_of_lt_of_le hz1 hb.size
       have HM2 := Lib.hid (MT.step HM1.out hb)
       have HB2 := Lib.hid (stepB HB1.out hb)
       clear hb
       go_wp2_with fail
       go_ret
       exact ⟨reti (natc HV2.out.symm), HB2.out⟩
   · have HV2 : Hid (r = j) := Lib.hid (by rw [HV.out, if_neg (by decide), if_pos (by omega)])
     have q0 : (p.msg.level == 0) = false := by simp [hl]
     clear HV hl hl0
     go_enter Tryz.func27, Tryz.ntmps27
     go_upto_region 1 with fail
     rw [← HW1.out]
     go_wp2_with (refine wpList_load_part (by rfl) 31 _ rfl w.heap.size 3 9 rfl 38 (pkC p a) (0, 0) _ HM1.out Tryz.underlying31 rfl info26 (by show 3 + 9 ≤ 34; decide) ?_)
     refine (H1.out w1 (HP.out.step HB1.out)).mono ?_
     rintro e w2 ⟨rfl, hb⟩
     obtain ⟨hc2, hf2⟩ := bcell hb
     have hz2 : w.heap.size < w2.heap.size := Nat.lt_of_lt_of_le hz1 hb.size
     have HM2 := Lib.hid (MT.step HM1.out hb)
     have HB2 := Lib.hid (stepB HB1.out hb)
     clear hb
     go_wp2_with fail
     refine (H2.out w2).mono ?_
     rintro e w' ⟨rfl, rfl⟩
     go_wp2_with fail
     go_ret
     exact ⟨reti (natc HV2.out.symm), HB2.out⟩
 · have HV2 : Hid (r = k) := Lib.hid (by rw [HV.out, if_pos h0])
   have q0 : ((k : Int) != 0) = true := by simp [h0]
   clear HV h0
   go_enter Tryz.func27, Tryz.ntmps27
   go_upto_region 1 with fail
   rw [← HW1.out]
   go_wp2_with (refine wpList_load_part (by rfl) 31 _ rfl w.heap.size 3 9 rfl 38 (pkC p a) (0, 0) _ HM1.out Tryz.underlying31 rfl info26 (by show 3 + 9 ≤ 34; decide) ?_)
   refine (H1.out w1 (HP.out.step HB1.out)).mono ?_
   rintro e w2 ⟨rfl, hb⟩
   obtain ⟨hc2, hf2⟩ := bcell hb
   have hz2 : w.heap.size < w2.heap.size := Nat.lt_of_lt_of_le hz1 hb.size
   have HM2 := Lib.hid (MT.step HM1.out hb)
   have HB2 := Lib.hid (stepB HB1.out hb)
   clear hb
   go_wp2_with fail
   go_ret
   exact ⟨reti (natc HV2.out.symm), HB2.out⟩
theorem fil_bad {x : ByteArray} (h0 : wantedR x = false) : filR x = 13 := by unfold filR; rw [if_pos h0]
theorem cod_bad {x : Int} (h0 : codeB x = false) : codR x = 1 := by rw [codR_B, if_neg (by simp [h0])]
def elemR (p : Pkt) : Nat := if firstE subR p.subs ≠ 0 then firstE subR p.subs else if firstE filR p.filters ≠ 0 then firstE filR p.filters else firstE codR p.codes
theorem firstE_le {α : Type} {f : α → Nat} {l : List α} {k : Nat} {x : α} (hr : ZUpto f l k) (hx : l[k]? = some x) (hz : f x ≠ 0) : firstE f l = f x := firstE_at hr hx hz
theorem elements_any (p : Pkt) (a : PA) (w : World) (h : PIn w p a) (hz : PSz p) (ht : PTx p) : Calls Tryz.prog 31 #[pkV p a] w fun e w' => e = .returned (.int .i64 (elemR p)) ∧ Below w.heap.size w w' := by
 unfold pkV
 obtain ⟨w1, hw1, hb1, hm1⟩ := boxK w p a
 have hz1 : w.heap.size < w1.heap.size := hm1.lt
 have HM1 := Lib.hid hm1
 have HB1 := Lib.hid hb1
 have HW1 := Lib.hid hw1
 have HP := Lib.hid h
 have HZ := Lib.hid hz
 have HX := Lib.hid ht
 have HV : Hid (elemR p = if firstE subR p.subs ≠ 0 then firstE subR p.subs else if firstE filR p.filters ≠ 0 then firstE filR p.filters else firstE codR p.codes) := Lib.hid rfl
 generalize elemR p = r at HV ⊢
 clear h hz ht hb1 hm1 hw1 hz1
 go_enter Tryz.func31, Tryz.ntmps31
 go_upto_region 1 with fail
 rw [← HW1.out]
 go_wp2_with fail
 go_loopg [3] p.subs.length (fun g v wr => ∃ k : Nat, k + g = p.subs.length ∧ v = .int .i64 k ∧ ZUpto subR p.subs k ∧ MT 38 wr w.heap.size (pkC p a) ∧ Below w.heap.size w wr)
 case atStart => exact ⟨0, by omega, rfl, ZUpto.zero _ _, HM1.out, HB1.out⟩
 case round =>
  obtain ⟨k, hkg, rfl, hrel, hM, hb⟩ := hrel
  have HG := Lib.hid hkg
  have HR := Lib.hid hrel
  have HM7 := Lib.hid hM
  have HB7 := Lib.hid hb
  have e31 : wr.cell? ⟨w.heap.size, 31, none⟩ = some (.slice a.s p.subs.length a.sc) := hM.cell 31
  have h63 : p.subs.length ≤ 9223372036854775806 := HZ.out.s
  clear hrel hM hb
  cases gk with
  | zero =>
    obtain rfl : k = p.subs.length := by omega
    have HD3 : Hid (firstE subR p.subs = 0) := Lib.hid (firstE_done HR.out)
    clear hkg HG HR
    go_wp2_with fail
    clear e31
    go_loopg [5] p.filters.length (fun g v wr => ∃ k : Nat, k + g = p.filters.length ∧ v = .int .i64 k ∧ ZUpto filR p.filters k ∧ MT 38 wr w.heap.size (pkC p a) ∧ Below w.heap.size w wr)
    case atStart => exact ⟨0, by omega, rfl, ZUpto.zero _ _, HM7.out, HB7.out⟩
    case round =>
     obtain ⟨k, hkg, rfl, hrel, hM, hb⟩ := hrel
     have HG := Lib.hid hkg
     have HR := Lib.hid hrel
     have HM8 := Lib.hid hM
     have HB8 := Lib.hid hb
     have e32 : wr.cell? ⟨w.heap.size, 32, none⟩ = some (.slice a.f p.filters.length a.fc) := hM.cell 32
     have h63 : p.filters.length ≤ 9223372036854775806 := HZ.out.f
     clear hrel hM hb
     cases gk with
     | zero =>
       obtain rfl : k = p.filters.length := by omega
       have HD5 : Hid (firstE filR p.filters = 0) := Lib.hid (firstE_done HR.out)
       clear hkg HG HR
       go_wp2_with fail
       clear e32
       go_loopg [6] p.codes.length (fun g v wr => ∃ k : Nat, k + g = p.codes.length ∧ v = .int .i64 k ∧ ZUpto codR p.codes k ∧ MT 38 wr w.heap.size (pkC p a) ∧ Below w.heap.size w wr)
       case atStart => exact ⟨0, by omega, rfl, ZUpto.zero _ _, HM8.out, HB8.out⟩
       case round =>
        obtain ⟨k, hkg, rfl, hrel, hM, hb⟩ := hrel
        have HG := Lib.hid hkg
        have HR := Lib.hid hrel
        have HM9 := Lib.hid hM
        have HB9 := Lib.hid hb
        have e33 : wr.cell? ⟨w.heap.size, 33, none⟩ = some (.slice a.c p.codes.length a.cc) := hM.cell 33
        have h63 : p.codes.length ≤ 9223372036854775806 := HZ.out.c
        clear hrel hM hb
        cases gk with
        | zero =>
          obtain rfl : k = p.codes.length := by omega
          have HD6 : Hid (firstE codR p.codes = 0) := Lib.hid (firstE_done HR.out)
          clear hkg HG HR
          have HV2 : Hid (r = 0) := Lib.hid (by rw [HV.out, HD3.out, HD5.out, HD6.out]; simp)
          go_wp2_with fail
          go_ret
          exact ⟨reti (natc HV2.out.symm), HB9.out⟩
        | succ g =>
          have hlt : k < p.codes.length := by omega
          have e3 : decide ((k : Int) < (p.codes.length : Int)) = true := decide_eq_true (by omega)
          obtain ⟨x, hx⟩ : ∃ x, p.codes[k]? = some x := ⟨_, List.getElem?_eq_getElem hlt⟩
          obtain ⟨b, o, hA, hbB, kk⟩ := IL.at_ (HP.out.step HB9.out).c hx
          have j1 : (0 : Int) ≤ (k : Int) := by omega
          have j2 : (k : Int) < (p.codes.length : Int) := by omega
          rw [hA] at e33
          have C := Lib.hid (fun w => rCode_any x w)
          have HS := Lib.hid (fun h0 : codeB x = true => HR.out.succ hx (show codR x = 0 by rw [codR_B, if_pos h0]))
          have HF := Lib.hid (fun h0 : codeB x = false => (HV.out.trans (by rw [HD3.out, HD5.out, if_neg (by simp), if_neg (by simp), firstE_le HR.out hx (by rw [cod_bad h0]; decide), cod_bad h0]) : r = 1))
          clear hx hkg hA
          generalize codeB x = z at C HS HF
          go_wp2_with fail
          refine (C.out wr).mono ?_
          rintro e w' ⟨rfl, rfl⟩
          cases z with
          | true =>
            have HS2 := Lib.hid (HS.out rfl)
            clear HF HS
            go_wp2_with fail
            go_roundg g
            case measure => omega
            case rel => exact ⟨k + 1, by have := HG.out; omega, by go_num, HS2.out, HM9.out, HB9.out⟩
          | false =>
            have HF2 := Lib.hid (HF.out rfl)
            clear HF HS
            go_wp2_with fail
            go_ret
            exact ⟨reti (natc HF2.out.symm), HB9.out⟩
     | succ g =>
       have hlt : k < p.filters.length := by omega
       have e3 : decide ((k : Int) < (p.filters.length : Int)) = true := decide_eq_true (by omega)
       obtain ⟨x, hx⟩ : ∃ x, p.filters[k]? = some x := ⟨_, List.getElem?_eq_getElem hlt⟩
       obtain ⟨b, o, hA, hbB, kk⟩ := SL.at_ (HP.out.step HB8.out).f hx
       have j1 : (0 : Int) ≤ (k : Int) := by omega
       have j2 : (k : Int) < (p.filters.length : Int) := by omega
       rw [hA] at e32
       have C := Lib.hid (fun w => rWanted_any x w (HX.out.f x (List.mem_of_getElem? hx)))
       have HS := Lib.hid (fun h0 : wantedR x = true => HR.out.succ hx (show filR x = 0 by unfold filR; rw [if_neg (by simp [h0])]))
       have HF := Lib.hid (fun h0 : wantedR x = false => (HV.out.trans (by rw [HD3.out, if_neg (by simp), firstE_le HR.out hx (by rw [fil_bad h0]; decide), fil_bad h0, if_pos (by decide)]) : r = 13))
       clear hx hkg hA
       generalize wantedR x = z at C HS HF
       go_wp2_with fail
       refine (C.out wr).mono ?_
       rintro e wq ⟨rfl, hb⟩
       have HBq := Lib.hid (stepB HB8.out hb)
       have HMq := Lib.hid (MT.step HM8.out hb)
       clear hb
       cases z with
       | true =>
         have HS2 := Lib.hid (HS.out rfl)
         clear HF HS
         go_wp2_with fail
         go_roundg g
         case measure => omega
         case rel => exact ⟨k + 1, by have := HG.out; omega, by go_num, HS2.out, HMq.out, HBq.out⟩
       | false =>
         have HF2 := Lib.hid (HF.out rfl)
         clear HF HS
         go_wp2_with fail
         go_ret
         exact ⟨reti (natc HF2.out.symm), HBq.out⟩
  | succ g =>
    have hlt : k < p.subs.length := by omega
    have e3 : decide ((k : Int) < (p.subs.length : Int)) = true := decide_eq_true (by omega)
    obtain ⟨x, hx⟩ : ∃ x, p.subs[k]? = some x := ⟨_, List.getElem?_eq_getElem hlt⟩
    obtain ⟨b, o, hA, hbB, kk, kv, kz⟩ := BL.at_ (HP.out.step HB7.out).s hx
    have j1 : (0 : Int) ≤ (k : Int) := by omega
    have j2 : (k : Int) < (p.subs.length : Int) := by omega
    rw [hA] at e31
    have C := Lib.hid (fun w => rSub_any x w (HX.out.s x (List.mem_of_getElem? hx)))
    have HS := Lib.hid (fun h0 : subR x = 0 => HR.out.succ hx h0)
    have HF := Lib.hid (fun h0 : subR x ≠ 0 => HV.out.trans (by rw [firstE_le HR.out hx h0, if_pos h0]))
    clear hx hkg hA
    generalize subR x = z at C HS HF
    go_wp2_with fail
    refine (C.out wr).mono ?_
    rintro e wq ⟨rfl, hb⟩
    have HBq := Lib.hid (stepB HB7.out hb)
    have HMq := Lib.hid (MT.step HM7.out hb)
    clear hb
    by_cases hz : z = 0
    · have HS2 := Lib.hid (HS.out hz)
      subst hz
      clear HF HS
      go_wp2_with fail
      go_roundg g
      case measure => omega
      case rel => exact ⟨k + 1, by have := HG.out; omega, by go_num, HS2.out, HMq.out, HBq.out⟩
    · have HF2 := Lib.hid (HF.out hz)
      have q5 : ((z : Int) != 0) = true := by simp [hz]
      clear HF HS hz
      go_wp2_with fail
      go_ret
      exact ⟨reti (natc HF2.out.symm), HBq.out⟩

end Go.Proofs.YtdkegoaflabjoaaGreatDoor
namespace Go.Proofs.YtdkegoaflabjoaaGreatDoor
open Go.RowKit

theorem used_lists {p : Pkt} (h : p = usedP p) : (p.kind = 8 → p.filters = [] ∧ p.codes = []) ∧ (p.kind = 10 → p.subs = [] ∧ p.codes = []) ∧ (p.kind = 9 ∨ p.kind = 11 → p.subs = [] ∧ p.filters = []) ∧ (p.kind = 14 → p.present = false) := by
 have h1 := congrArg Pkt.subs h
 have h2 := congrArg Pkt.filters h
 have h3 := congrArg Pkt.codes h
 have h4 := congrArg Pkt.present h
 simp only [usedP] at h1 h2 h3 h4
 refine ⟨fun hk => ⟨?_, ?_⟩, fun hk => ⟨?_, ?_⟩, fun hk => ⟨?_, ?_⟩, fun hk => ?_⟩
 · rw [h2, if_neg (by omega)]
 · rw [h3, if_neg (by omega)]
 · rw [h1, if_neg (by omega)]
 · rw [h3, if_neg (by omega)]
 · rw [h1, if_neg (by omega)]
 · rw [h2, if_neg (by omega)]
 · rw [h4, if_neg (by omega)]
theorem rCheck6_1 (p : Pkt) (a : PA) (w : World) (h : PIn w p a) (hs : BigZ p) (hk0 : p.kind = 1) (hu : sameP p (usedP p) = true) :
 Calls Tryz.prog 13 #[pkV p a] w fun e w' => e = .returned (.int .i64 (checkP p)) ∧ Below w.heap.size w w' := by
 have hk := Lib.hid hk0
 have hz := hs.1.sz
 have ht := hs.1.tx
 have hq := used_lists (of_decide_eq_true hu : p = usedP p)
 have HU := Lib.hid (fun w => rUsed_any p a w (by omega))
 have HS : Hid (∀ w, PIn w p a → Calls Tryz.prog 9 #[pkV p a, pkV (usedP p) (usedA p a)] w fun e w' => e = .returned (.bool true) ∧ Below w.heap.size w w') := Lib.hid (fun w h => by
  have := rSameP_any p (usedP p) a (usedA p a) w h h.used hz hz.used
  rw [hu] at this; exact this)
 have HV := Lib.hid (checkP_in (by omega) hu)
 have HC : Hid (∀ w, PIn w p a → Calls Tryz.prog 26 #[pkV p a] w fun e w' => e = .returned (.int .i64 (connR p)) ∧ Below w.heap.size w w') := Lib.hid (fun w h => rConnect_any p a w h.v hz.v hs.2.2.2.2 hs.2.1 hs.2.2.1)
 generalize checkP p = r at HV ⊢
 unfold pkV at *
 obtain ⟨w1, hw1, hb1, hm1⟩ := boxK w p a
 have c0 : w1.cell? ⟨w.heap.size, 0, none⟩ = some (.int .i64 p.kind) := hm1.cell 0
 have HQw1 := Lib.hid hm1
 have HBw1 := Lib.hid hb1
 have HPw1 := Lib.hid (h.step hb1)
 have HW1 := Lib.hid hw1
 clear hk0 hu h hs hz ht hq hb1 hm1 hw1
 have HV2 : Hid (r = connR p) := Lib.hid (HV.out.trans (by unfold bodyR; simp [hk.out]))
 clear HV
 rw [show p.kind = 1 from hk.out] at c0
 go_enter Tryz.func13, Tryz.ntmps13
 go_upto_region 1 with fail
 rw [← HW1.out]
 go_upto_region 3 with fail
 obtain ⟨v1, hv1⟩ : ∃ v1, v1 = World.drew w1 := ⟨_, rfl⟩
 have hbD : Below w1.heap.size w1 v1 := by rw [hv1]; exact (Below.refl _ _).drew
 have HBv1 := Lib.hid (stepB HBw1.out hbD)
 have HQv1 := Lib.hid (MT.step HQw1.out hbD)
 have HPv1 := Lib.hid (PIn.step HPw1.out hbD)
 clear HBw1 HQw1 HPw1
 have hbd : (fun w' => MT 38 w' w.heap.size (pkC p a)) (World.drew w1) := by rw [← hv1]; exact HQv1.out
 have hSD := HQv1.out
 have HWD := Lib.hid hv1
 clear hv1 hbD
 refine wp_region_held_drew (S := fun w' => MT 38 w' w.heap.size (pkC p a)) (by kernel_rfl) hbd (fun hHeld => ?_)
 rw [← HWD.out]
 clear hHeld
 have hHeld := hSD
 clear hSD hbd HWD
 refine tkP (i := 0) (h := ?_)
 refine tkP (i := 1) (h := ?_)
 refine rdA 2 (h := fun K hK => ?_)
 go_simp
 go_at_call 25
 refine (HU.out v1).mono ?_
 rintro e v2 ⟨rfl, hb⟩
 have HBv2 := Lib.hid (stepB HBv1.out hb)
 have HQv2 := Lib.hid (MT.step HQv1.out hb)
 have HPv2 := Lib.hid (PIn.step HPv1.out hb)
 clear HBv1 HQv1 HPv1
 clear hHeld hb
 go_wp2_with fail
 refine hK.out _ _ HQv2.out (fun hHeld => ?_)
 clear hK K
 try simp only [Act.put, List.setIfInBounds_toArray, List.set]
 refine rdA 3 (h := fun K hK => ?_)
 go_simp
 go_at_call 9
 refine (HS.out v2 HPv2.out).mono ?_
 rintro e v3 ⟨rfl, hb⟩
 have HBv3 := Lib.hid (stepB HBv2.out hb)
 have HQv3 := Lib.hid (MT.step HQv2.out hb)
 have HPv3 := Lib.hid (PIn.step HPv2.out hb)
 clear HBv2 HQv2 HPv2
 clear hHeld hb
 go_wp2_with fail
 refine hK.out _ _ HQv3.out (fun hHeld => ?_)
 clear hK K
 try simp only [Act.put, List.setIfInBounds_toArray, List.set]
 refine tkS (i := 4) (v := .bool false) (h := ?_)
 refine wpAnyH_done (by kernel_rfl) ?_ _
 have d0 : v3.cell? ⟨w.heap.size, 0, none⟩ = some (.int .i64 1) := (HQv3.out.cell 0).trans (by rw [← hk.out]; rfl)
 go_wp2_with (refine wpList_load_all (by rfl) 38 (.tmp 1) rfl w.heap.size rfl 38 _ (0, 0) _ HQv3.out Tryz.underlying38 rfl info33 ?_)
 refine (HC.out v3 HPv3.out).mono ?_
 rintro e w9 ⟨rfl, hb⟩
 have HB9 := Lib.hid (stepB HBv3.out hb)
 clear hb
 go_wp2_with fail
 go_ret
 exact ⟨reti (natc HV2.out.symm), HB9.out⟩
theorem rCheck6_3 (p : Pkt) (a : PA) (w : World) (h : PIn w p a) (hs : BigZ p) (hk0 : p.kind = 3) (hu : sameP p (usedP p) = true) :
 Calls Tryz.prog 13 #[pkV p a] w fun e w' => e = .returned (.int .i64 (checkP p)) ∧ Below w.heap.size w w' := by
 have hk := Lib.hid hk0
 have hz := hs.1.sz
 have ht := hs.1.tx
 have hq := used_lists (of_decide_eq_true hu : p = usedP p)
 have HU := Lib.hid (fun w => rUsed_any p a w (by omega))
 have HS : Hid (∀ w, PIn w p a → Calls Tryz.prog 9 #[pkV p a, pkV (usedP p) (usedA p a)] w fun e w' => e = .returned (.bool true) ∧ Below w.heap.size w w') := Lib.hid (fun w h => by
  have := rSameP_any p (usedP p) a (usedA p a) w h h.used hz hz.used
  rw [hu] at this; exact this)
 have HV := Lib.hid (checkP_in (by omega) hu)
 have HC : Hid (∀ w, PIn w p a → Calls Tryz.prog 27 #[pkV p a] w fun e w' => e = .returned (.int .i64 (pubR p)) ∧ Below w.heap.size w w') := Lib.hid (fun w h => rPublish_any p a w h.m hs.2.2.2.1)
 generalize checkP p = r at HV ⊢
 unfold pkV at *
 obtain ⟨w1, hw1, hb1, hm1⟩ := boxK w p a
 have c0 : w1.cell? ⟨w.heap.size, 0, none⟩ = some (.int .i64 p.kind) := hm1.cell 0
 have HQw1 := Lib.hid hm1
 have HBw1 := Lib.hid hb1
 have HPw1 := Lib.hid (h.step hb1)
 have HW1 := Lib.hid hw1
 clear hk0 hu h hs hz ht hq hb1 hm1 hw1
 have HV2 : Hid (r = pubR p) := Lib.hid (HV.out.trans (by unfold bodyR; simp [hk.out]))
 clear HV
 rw [show p.kind = 3 from hk.out] at c0
 go_enter Tryz.func13, Tryz.ntmps13
 go_upto_region 1 with fail
 rw [← HW1.out]
 go_upto_region 3 with fail
 obtain ⟨v1, hv1⟩ : ∃ v1, v1 = World.drew w1 := ⟨_, rfl⟩
 have hbD : Below w1.heap.size w1 v1 := by rw [hv1]; exact (Below.refl _ _).drew
 have HBv1 := Lib.hid (stepB HBw1.out hbD)
 have HQv1 := Lib.hid (MT.step HQw1.out hbD)
 have HPv1 := Lib.hid (PIn.step HPw1.out hbD)
 clear HBw1 HQw1 HPw1
 have hbd : (fun w' => MT 38 w' w.heap.size (pkC p a)) (World.drew w1) := by rw [← hv1]; exact HQv1.out
 have hSD := HQv1.out
 have HWD := Lib.hid hv1
 clear hv1 hbD
 refine wp_region_held_drew (S := fun w' => MT 38 w' w.heap.size (pkC p a)) (by kernel_rfl) hbd (fun hHeld => ?_)
 rw [← HWD.out]
 clear hHeld
 have hHeld := hSD
 clear hSD hbd HWD
 refine tkP (i := 0) (h := ?_)
 refine tkP (i := 1) (h := ?_)
 refine rdA 2 (h := fun K hK => ?_)
 go_simp
 go_at_call 25
 refine (HU.out v1).mono ?_
 rintro e v2 ⟨rfl, hb⟩
 have HBv2 := Lib.hid (stepB HBv1.out hb)
 have HQv2 := Lib.hid (MT.step HQv1.out hb)
 have HPv2 := Lib.hid (PIn.step HPv1.out hb)
 clear HBv1 HQv1 HPv1
 clear hHeld hb
 go_wp2_with fail
 refine hK.out _ _ HQv2.out (fun hHeld => ?_)
 clear hK K
 try simp only [Act.put, List.setIfInBounds_toArray, List.set]
 refine rdA 3 (h := fun K hK => ?_)
 go_simp
 go_at_call 9
 refine (HS.out v2 HPv2.out).mono ?_
 rintro e v3 ⟨rfl, hb⟩
 have HBv3 := Lib.hid (stepB HBv2.out hb)
 have HQv3 := Lib.hid (MT.step HQv2.out hb)
 have HPv3 := Lib.hid (PIn.step HPv2.out hb)
 clear HBv2 HQv2 HPv2
 clear hHeld hb
 go_wp2_with fail
 refine hK.out _ _ HQv3.out (fun hHeld => ?_)
 clear hK K
 try simp only [Act.put, List.setIfInBounds_toArray, List.set]
 refine tkS (i := 4) (v := .bool false) (h := ?_)
 refine wpAnyH_done (by kernel_rfl) ?_ _
 have d0 : v3.cell? ⟨w.heap.size, 0, none⟩ = some (.int .i64 3) := (HQv3.out.cell 0).trans (by rw [← hk.out]; rfl)
 go_wp2_with (refine wpList_load_all (by rfl) 38 (.tmp 1) rfl w.heap.size rfl 38 _ (0, 0) _ HQv3.out Tryz.underlying38 rfl info33 ?_)
 refine (HC.out v3 HPv3.out).mono ?_
 rintro e w9 ⟨rfl, hb⟩
 have HB9 := Lib.hid (stepB HBv3.out hb)
 clear hb
 go_wp2_with fail
 go_ret
 exact ⟨reti (natc HV2.out.symm), HB9.out⟩
theorem rCheck6_12 (p : Pkt) (a : PA) (w : World) (h : PIn w p a) (hs : BigZ p) (hk0 : p.kind = 12) (hu : sameP p (usedP p) = true) :
 Calls Tryz.prog 13 #[pkV p a] w fun e w' => e = .returned (.int .i64 (checkP p)) ∧ Below w.heap.size w w' := by
 have hk := Lib.hid hk0
 have hz := hs.1.sz
 have ht := hs.1.tx
 have hq := used_lists (of_decide_eq_true hu : p = usedP p)
 have HU := Lib.hid (fun w => rUsed_any p a w (by omega))
 have HS : Hid (∀ w, PIn w p a → Calls Tryz.prog 9 #[pkV p a, pkV (usedP p) (usedA p a)] w fun e w' => e = .returned (.bool true) ∧ Below w.heap.size w w') := Lib.hid (fun w h => by
  have := rSameP_any p (usedP p) a (usedA p a) w h h.used hz hz.used
  rw [hu] at this; exact this)
 have HV := Lib.hid (checkP_in (by omega) hu)
 generalize checkP p = r at HV ⊢
 unfold pkV at *
 obtain ⟨w1, hw1, hb1, hm1⟩ := boxK w p a
 have c0 : w1.cell? ⟨w.heap.size, 0, none⟩ = some (.int .i64 p.kind) := hm1.cell 0
 have HQw1 := Lib.hid hm1
 have HBw1 := Lib.hid hb1
 have HPw1 := Lib.hid (h.step hb1)
 have HW1 := Lib.hid hw1
 clear hk0 hu h hs hz ht hq hb1 hm1 hw1
 have HV2 : Hid (r = 0) := Lib.hid (HV.out.trans (by unfold bodyR; simp [hk.out]))
 clear HV
 rw [show p.kind = 12 from hk.out] at c0
 go_enter Tryz.func13, Tryz.ntmps13
 go_upto_region 1 with fail
 rw [← HW1.out]
 go_upto_region 3 with fail
 obtain ⟨v1, hv1⟩ : ∃ v1, v1 = World.drew w1 := ⟨_, rfl⟩
 have hbD : Below w1.heap.size w1 v1 := by rw [hv1]; exact (Below.refl _ _).drew
 have HBv1 := Lib.hid (stepB HBw1.out hbD)
 have HQv1 := Lib.hid (MT.step HQw1.out hbD)
 have HPv1 := Lib.hid (PIn.step HPw1.out hbD)
 clear HBw1 HQw1 HPw1
 have hbd : (fun w' => MT 38 w' w.heap.size (pkC p a)) (World.drew w1) := by rw [← hv1]; exact HQv1.out
 have hSD := HQv1.out
 have HWD := Lib.hid hv1
 clear hv1 hbD
 refine wp_region_held_drew (S := fun w' => MT 38 w' w.heap.size (pkC p a)) (by kernel_rfl) hbd (fun hHeld => ?_)
 rw [← HWD.out]
 clear hHeld
 have hHeld := hSD
 clear hSD hbd HWD
 refine tkP (i := 0) (h := ?_)
 refine tkP (i := 1) (h := ?_)
 refine rdA 2 (h := fun K hK => ?_)
 go_simp
 go_at_call 25
 refine (HU.out v1).mono ?_
 rintro e v2 ⟨rfl, hb⟩
 have HBv2 := Lib.hid (stepB HBv1.out hb)
 have HQv2 := Lib.hid (MT.step HQv1.out hb)
 have HPv2 := Lib.hid (PIn.step HPv1.out hb)
 clear HBv1 HQv1 HPv1
 clear hHeld hb
 go_wp2_with fail
 refine hK.out _ _ HQv2.out (fun hHeld => ?_)
 clear hK K
 try simp only [Act.put, List.setIfInBounds_toArray, List.set]
 refine rdA 3 (h := fun K hK => ?_)
 go_simp
 go_at_call 9
 refine (HS.out v2 HPv2.out).mono ?_
 rintro e v3 ⟨rfl, hb⟩
 have HBv3 := Lib.hid (stepB HBv2.out hb)
 have HQv3 := Lib.hid (MT.step HQv2.out hb)
 have HPv3 := Lib.hid (PIn.step HPv2.out hb)
 clear HBv2 HQv2 HPv2
 clear hHeld hb
 go_wp2_with fail
 refine hK.out _ _ HQv3.out (fun hHeld => ?_)
 clear hK K
 try simp only [Act.put, List.setIfInBounds_toArray, List.set]
 refine tkS (i := 4) (v := .bool false) (h := ?_)
 refine wpAnyH_done (by kernel_rfl) ?_ _
 have d0 : v3.cell? ⟨w.heap.size, 0, none⟩ = some (.int .i64 12) := (HQv3.out.cell 0).trans (by rw [← hk.out]; rfl)
 go_wp2_with fail
 go_ret
 exact ⟨reti (natc HV2.out.symm), HBv3.out⟩
theorem rCheck6_13 (p : Pkt) (a : PA) (w : World) (h : PIn w p a) (hs : BigZ p) (hk0 : p.kind = 13) (hu : sameP p (usedP p) = true) :
 Calls Tryz.prog 13 #[pkV p a] w fun e w' => e = .returned (.int .i64 (checkP p)) ∧ Below w.heap.size w w' := by
 have hk := Lib.hid hk0
 have hz := hs.1.sz
 have ht := hs.1.tx
 have hq := used_lists (of_decide_eq_true hu : p = usedP p)
 have HU := Lib.hid (fun w => rUsed_any p a w (by omega))
 have HS : Hid (∀ w, PIn w p a → Calls Tryz.prog 9 #[pkV p a, pkV (usedP p) (usedA p a)] w fun e w' => e = .returned (.bool true) ∧ Below w.heap.size w w') := Lib.hid (fun w h => by
  have := rSameP_any p (usedP p) a (usedA p a) w h h.used hz hz.used
  rw [hu] at this; exact this)
 have HV := Lib.hid (checkP_in (by omega) hu)
 generalize checkP p = r at HV ⊢
 unfold pkV at *
 obtain ⟨w1, hw1, hb1, hm1⟩ := boxK w p a
 have c0 : w1.cell? ⟨w.heap.size, 0, none⟩ = some (.int .i64 p.kind) := hm1.cell 0
 have HQw1 := Lib.hid hm1
 have HBw1 := Lib.hid hb1
 have HPw1 := Lib.hid (h.step hb1)
 have HW1 := Lib.hid hw1
 clear hk0 hu h hs hz ht hq hb1 hm1 hw1
 have HV2 : Hid (r = 0) := Lib.hid (HV.out.trans (by unfold bodyR; simp [hk.out]))
 clear HV
 rw [show p.kind = 13 from hk.out] at c0
 go_enter Tryz.func13, Tryz.ntmps13
 go_upto_region 1 with fail
 rw [← HW1.out]
 go_upto_region 3 with fail
 obtain ⟨v1, hv1⟩ : ∃ v1, v1 = World.drew w1 := ⟨_, rfl⟩
 have hbD : Below w1.heap.size w1 v1 := by rw [hv1]; exact (Below.refl _ _).drew
 have HBv1 := Lib.hid (stepB HBw1.out hbD)
 have HQv1 := Lib.hid (MT.step HQw1.out hbD)
 have HPv1 := Lib.hid (PIn.step HPw1.out hbD)
 clear HBw1 HQw1 HPw1
 have hbd : (fun w' => MT 38 w' w.heap.size (pkC p a)) (World.drew w1) := by rw [← hv1]; exact HQv1.out
 have hSD := HQv1.out
 have HWD := Lib.hid hv1
 clear hv1 hbD
 refine wp_region_held_drew (S := fun w' => MT 38 w' w.heap.size (pkC p a)) (by kernel_rfl) hbd (fun hHeld => ?_)
 rw [← HWD.out]
 clear hHeld
 have hHeld := hSD
 clear hSD hbd HWD
 refine tkP (i := 0) (h := ?_)
 refine tkP (i := 1) (h := ?_)
 refine rdA 2 (h := fun K hK => ?_)
 go_simp
 go_at_call 25
 refine (HU.out v1).mono ?_
 rintro e v2 ⟨rfl, hb⟩
 have HBv2 := Lib.hid (stepB HBv1.out hb)
 have HQv2 := Lib.hid (MT.step HQv1.out hb)
 have HPv2 := Lib.hid (PIn.step HPv1.out hb)
 clear HBv1 HQv1 HPv1
 clear hHeld hb
 go_wp2_with fail
 refine hK.out _ _ HQv2.out (fun hHeld => ?_)
 clear hK K
 try simp only [Act.put, List.setIfInBounds_toArray, List.set]
 refine rdA 3 (h := fun K hK => ?_)
 go_simp
 go_at_call 9
 refine (HS.out v2 HPv2.out).mono ?_
 rintro e v3 ⟨rfl, hb⟩
 have HBv3 := Lib.hid (stepB HBv2.out hb)
 have HQv3 := Lib.hid (MT.step HQv2.out hb)
 have HPv3 := Lib.hid (PIn.step HPv2.out hb)
 clear HBv2 HQv2 HPv2
 clear hHeld hb
 go_wp2_with fail
 refine hK.out _ _ HQv3.out (fun hHeld => ?_)
 clear hK K
 try simp only [Act.put, List.setIfInBounds_toArray, List.set]
 refine tkS (i := 4) (v := .bool false) (h := ?_)
 refine wpAnyH_done (by kernel_rfl) ?_ _
 have d0 : v3.cell? ⟨w.heap.size, 0, none⟩ = some (.int .i64 13) := (HQv3.out.cell 0).trans (by rw [← hk.out]; rfl)
 go_wp2_with fail
 go_ret
 exact ⟨reti (natc HV2.out.symm), HBv3.out⟩
theorem rCheck6_4 (p : Pkt) (a : PA) (w : World) (h : PIn w p a) (hs : BigZ p) (hk0 : p.kind = 4) (hu : sameP p (usedP p) = true) :
 Calls Tryz.prog 13 #[pkV p a] w fun e w' => e = .returned (.int .i64 (checkP p)) ∧ Below w.heap.size w w' := by
 have hk := Lib.hid hk0
 have hz := hs.1.sz
 have ht := hs.1.tx
 have hq := used_lists (of_decide_eq_true hu : p = usedP p)
 have HU := Lib.hid (fun w => rUsed_any p a w (by omega))
 have HS : Hid (∀ w, PIn w p a → Calls Tryz.prog 9 #[pkV p a, pkV (usedP p) (usedA p a)] w fun e w' => e = .returned (.bool true) ∧ Below w.heap.size w w') := Lib.hid (fun w h => by
  have := rSameP_any p (usedP p) a (usedA p a) w h h.used hz hz.used
  rw [hu] at this; exact this)
 have HV := Lib.hid (checkP_in (by omega) hu)
 have HC := Lib.hid (fun w => rIdent_any p.id w)
 generalize checkP p = r at HV ⊢
 unfold pkV at *
 obtain ⟨w1, hw1, hb1, hm1⟩ := boxK w p a
 have c0 : w1.cell? ⟨w.heap.size, 0, none⟩ = some (.int .i64 p.kind) := hm1.cell 0
 have HQw1 := Lib.hid hm1
 have HBw1 := Lib.hid hb1
 have HPw1 := Lib.hid (h.step hb1)
 have HW1 := Lib.hid hw1
 clear hk0 hu h hs hz ht hq hb1 hm1 hw1
 have HV2 : Hid (r = idR p.id) := Lib.hid (HV.out.trans (by unfold bodyR; simp [hk.out]))
 clear HV
 rw [show p.kind = 4 from hk.out] at c0
 go_enter Tryz.func13, Tryz.ntmps13
 go_upto_region 1 with fail
 rw [← HW1.out]
 go_upto_region 3 with fail
 obtain ⟨v1, hv1⟩ : ∃ v1, v1 = World.drew w1 := ⟨_, rfl⟩
 have hbD : Below w1.heap.size w1 v1 := by rw [hv1]; exact (Below.refl _ _).drew
 have HBv1 := Lib.hid (stepB HBw1.out hbD)
 have HQv1 := Lib.hid (MT.step HQw1.out hbD)
 have HPv1 := Lib.hid (PIn.step HPw1.out hbD)
 clear HBw1 HQw1 HPw1
 have hbd : (fun w' => MT 38 w' w.heap.size (pkC p a)) (World.drew w1) := by rw [← hv1]; exact HQv1.out
 have hSD := HQv1.out
 have HWD := Lib.hid hv1
 clear hv1 hbD
 refine wp_region_held_drew (S := fun w' => MT 38 w' w.heap.size (pkC p a)) (by kernel_rfl) hbd (fun hHeld => ?_)
 rw [← HWD.out]
 clear hHeld
 have hHeld := hSD
 clear hSD hbd HWD
 refine tkP (i := 0) (h := ?_)
 refine tkP (i := 1) (h := ?_)
 refine rdA 2 (h := fun K hK => ?_)
 go_simp
 go_at_call 25
 refine (HU.out v1).mono ?_
 rintro e v2 ⟨rfl, hb⟩
 have HBv2 := Lib.hid (stepB HBv1.out hb)
 have HQv2 := Lib.hid (MT.step HQv1.out hb)
 have HPv2 := Lib.hid (PIn.step HPv1.out hb)
 clear HBv1 HQv1 HPv1
 clear hHeld hb
 go_wp2_with fail
 refine hK.out _ _ HQv2.out (fun hHeld => ?_)
 clear hK K
 try simp only [Act.put, List.setIfInBounds_toArray, List.set]
 refine rdA 3 (h := fun K hK => ?_)
 go_simp
 go_at_call 9
 refine (HS.out v2 HPv2.out).mono ?_
 rintro e v3 ⟨rfl, hb⟩
 have HBv3 := Lib.hid (stepB HBv2.out hb)
 have HQv3 := Lib.hid (MT.step HQv2.out hb)
 have HPv3 := Lib.hid (PIn.step HPv2.out hb)
 clear HBv2 HQv2 HPv2
 clear hHeld hb
 go_wp2_with fail
 refine hK.out _ _ HQv3.out (fun hHeld => ?_)
 clear hK K
 try simp only [Act.put, List.setIfInBounds_toArray, List.set]
 refine tkS (i := 4) (v := .bool false) (h := ?_)
 refine wpAnyH_done (by kernel_rfl) ?_ _
 have d0 : v3.cell? ⟨w.heap.size, 0, none⟩ = some (.int .i64 4) := (HQv3.out.cell 0).trans (by rw [← hk.out]; rfl)
 have d1 : v3.cell? ⟨w.heap.size, 1, none⟩ = some (.int .i64 p.id) := HQv3.out.cell 1
 generalize idR p.id = j at HC HV2
 by_cases hj : j = 0
 · subst hj
   go_wp2_with fail
   refine (HC.out v3).mono ?_
   rintro e w' ⟨rfl, rfl⟩
   go_wp2_with fail
   go_ret
   exact ⟨reti (natc HV2.out.symm), HBv3.out⟩
 · have qj : ((j : Int) != 0) = true := by simp [hj]
   clear hj
   go_wp2_with fail
   refine (HC.out v3).mono ?_
   rintro e w' ⟨rfl, rfl⟩
   go_wp2_with fail
   go_ret
   exact ⟨reti (natc HV2.out.symm), HBv3.out⟩
theorem rCheck6_5 (p : Pkt) (a : PA) (w : World) (h : PIn w p a) (hs : BigZ p) (hk0 : p.kind = 5) (hu : sameP p (usedP p) = true) :
 Calls Tryz.prog 13 #[pkV p a] w fun e w' => e = .returned (.int .i64 (checkP p)) ∧ Below w.heap.size w w' := by
 have hk := Lib.hid hk0
 have hz := hs.1.sz
 have ht := hs.1.tx
 have hq := used_lists (of_decide_eq_true hu : p = usedP p)
 have HU := Lib.hid (fun w => rUsed_any p a w (by omega))
 have HS : Hid (∀ w, PIn w p a → Calls Tryz.prog 9 #[pkV p a, pkV (usedP p) (usedA p a)] w fun e w' => e = .returned (.bool true) ∧ Below w.heap.size w w') := Lib.hid (fun w h => by
  have := rSameP_any p (usedP p) a (usedA p a) w h h.used hz hz.used
  rw [hu] at this; exact this)
 have HV := Lib.hid (checkP_in (by omega) hu)
 have HC := Lib.hid (fun w => rIdent_any p.id w)
 generalize checkP p = r at HV ⊢
 unfold pkV at *
 obtain ⟨w1, hw1, hb1, hm1⟩ := boxK w p a
 have c0 : w1.cell? ⟨w.heap.size, 0, none⟩ = some (.int .i64 p.kind) := hm1.cell 0
 have HQw1 := Lib.hid hm1
 have HBw1 := Lib.hid hb1
 have HPw1 := Lib.hid (h.step hb1)
 have HW1 := Lib.hid hw1
 clear hk0 hu h hs hz ht hq hb1 hm1 hw1
 have HV2 : Hid (r = idR p.id) := Lib.hid (HV.out.trans (by unfold bodyR; simp [hk.out]))
 clear HV
 rw [show p.kind = 5 from hk.out] at c0
 go_enter Tryz.func13, Tryz.ntmps13
 go_upto_region 1 with fail
 rw [← HW1.out]
 go_upto_region 3 with fail
 obtain ⟨v1, hv1⟩ : ∃ v1, v1 = World.drew w1 := ⟨_, rfl⟩
 have hbD : Below w1.heap.size w1 v1 := by rw [hv1]; exact (Below.refl _ _).drew
 have HBv1 := Lib.hid (stepB HBw1.out hbD)
 have HQv1 := Lib.hid (MT.step HQw1.out hbD)
 have HPv1 := Lib.hid (PIn.step HPw1.out hbD)
 clear HBw1 HQw1 HPw1
 have hbd : (fun w' => MT 38 w' w.heap.size (pkC p a)) (World.drew w1) := by rw [← hv1]; exact HQv1.out
 have hSD := HQv1.out
 have HWD := Lib.hid hv1
 clear hv1 hbD
 refine wp_region_held_drew (S := fun w' => MT 38 w' w.heap.size (pkC p a)) (by kernel_rfl) hbd (fun hHeld => ?_)
 rw [← HWD.out]
 clear hHeld
 have hHeld := hSD
 clear hSD hbd HWD
 refine tkP (i := 0) (h := ?_)
 refine tkP (i := 1) (h := ?_)
 refine rdA 2 (h := fun K hK => ?_)
 go_simp
 go_at_call 25
 refine (HU.out v1).mono ?_
 rintro e v2 ⟨rfl, hb⟩
 have HBv2 := Lib.hid (stepB HBv1.out hb)
 have HQv2 := Lib.hid (MT.step HQv1.out hb)
 have HPv2 := Lib.hid (PIn.step HPv1.out hb)
 clear HBv1 HQv1 HPv1
 clear hHeld hb
 go_wp2_with fail
 refine hK.out _ _ HQv2.out (fun hHeld => ?_)
 clear hK K
 try simp only [Act.put, List.setIfInBounds_toArray, List.set]
 refine rdA 3 (h := fun K hK => ?_)
 go_simp
 go_at_call 9
 refine (HS.out v2 HPv2.out).mono ?_
 rintro e v3 ⟨rfl, hb⟩
 have HBv3 := Lib.hid (stepB HBv2.out hb)
 have HQv3 := Lib.hid (MT.step HQv2.out hb)
 have HPv3 := Lib.hid (PIn.step HPv2.out hb)
 clear HBv2 HQv2 HPv2
 clear hHeld hb
 go_wp2_with fail
 refine hK.out _ _ HQv3.out (fun hHeld => ?_)
 clear hK K
 try simp only [Act.put, List.setIfInBounds_toArray, List.set]
 refine tkS (i := 4) (v := .bool false) (h := ?_)
 refine wpAnyH_done (by kernel_rfl) ?_ _
 have d0 : v3.cell? ⟨w.heap.size, 0, none⟩ = some (.int .i64 5) := (HQv3.out.cell 0).trans (by rw [← hk.out]; rfl)
 have d1 : v3.cell? ⟨w.heap.size, 1, none⟩ = some (.int .i64 p.id) := HQv3.out.cell 1
 generalize idR p.id = j at HC HV2
 by_cases hj : j = 0
 · subst hj
   go_wp2_with fail
   refine (HC.out v3).mono ?_
   rintro e w' ⟨rfl, rfl⟩
   go_wp2_with fail
   go_ret
   exact ⟨reti (natc HV2.out.symm), HBv3.out⟩
 · have qj : ((j : Int) != 0) = true := by simp [hj]
   clear hj
   go_wp2_with fail
   refine (HC.out v3).mono ?_
   rintro e w' ⟨rfl, rfl⟩
   go_wp2_with fail
   go_ret
   exact ⟨reti (natc HV2.out.symm), HBv3.out⟩
theorem rCheck6_6 (p : Pkt) (a : PA) (w : World) (h : PIn w p a) (hs : BigZ p) (hk0 : p.kind = 6) (hu : sameP p (usedP p) = true) :
 Calls Tryz.prog 13 #[pkV p a] w fun e w' => e = .returned (.int .i64 (checkP p)) ∧ Below w.heap.size w w' := by
 have hk := Lib.hid hk0
 have hz := hs.1.sz
 have ht := hs.1.tx
 have hq := used_lists (of_decide_eq_true hu : p = usedP p)
 have HU := Lib.hid (fun w => rUsed_any p a w (by omega))
 have HS : Hid (∀ w, PIn w p a → Calls Tryz.prog 9 #[pkV p a, pkV (usedP p) (usedA p a)] w fun e w' => e = .returned (.bool true) ∧ Below w.heap.size w w') := Lib.hid (fun w h => by
  have := rSameP_any p (usedP p) a (usedA p a) w h h.used hz hz.used
  rw [hu] at this; exact this)
 have HV := Lib.hid (checkP_in (by omega) hu)
 have HC := Lib.hid (fun w => rIdent_any p.id w)
 generalize checkP p = r at HV ⊢
 unfold pkV at *
 obtain ⟨w1, hw1, hb1, hm1⟩ := boxK w p a
 have c0 : w1.cell? ⟨w.heap.size, 0, none⟩ = some (.int .i64 p.kind) := hm1.cell 0
 have HQw1 := Lib.hid hm1
 have HBw1 := Lib.hid hb1
 have HPw1 := Lib.hid (h.step hb1)
 have HW1 := Lib.hid hw1
 clear hk0 hu h hs hz ht hq hb1 hm1 hw1
 have HV2 : Hid (r = idR p.id) := Lib.hid (HV.out.trans (by unfold bodyR; simp [hk.out]))
 clear HV
 rw [show p.kind = 6 from hk.out] at c0
 go_enter Tryz.func13, Tryz.ntmps13
 go_upto_region 1 with fail
 rw [← HW1.out]
 go_upto_region 3 with fail
 obtain ⟨v1, hv1⟩ : ∃ v1, v1 = World.drew w1 := ⟨_, rfl⟩
 have hbD : Below w1.heap.size w1 v1 := by rw [hv1]; exact (Below.refl _ _).drew
 have HBv1 := Lib.hid (stepB HBw1.out hbD)
 have HQv1 := Lib.hid (MT.step HQw1.out hbD)
 have HPv1 := Lib.hid (PIn.step HPw1.out hbD)
 clear HBw1 HQw1 HPw1
 have hbd : (fun w' => MT 38 w' w.heap.size (pkC p a)) (World.drew w1) := by rw [← hv1]; exact HQv1.out
 have hSD := HQv1.out
 have HWD := Lib.hid hv1
 clear hv1 hbD
 refine wp_region_held_drew (S := fun w' => MT 38 w' w.heap.size (pkC p a)) (by kernel_rfl) hbd (fun hHeld => ?_)
 rw [← HWD.out]
 clear hHeld
 have hHeld := hSD
 clear hSD hbd HWD
 refine tkP (i := 0) (h := ?_)
 refine tkP (i := 1) (h := ?_)
 refine rdA 2 (h := fun K hK => ?_)
 go_simp
 go_at_call 25
 refine (HU.out v1).mono ?_
 rintro e v2 ⟨rfl, hb⟩
 have HBv2 := Lib.hid (stepB HBv1.out hb)
 have HQv2 := Lib.hid (MT.step HQv1.out hb)
 have HPv2 := Lib.hid (PIn.step HPv1.out hb)
 clear HBv1 HQv1 HPv1
 clear hHeld hb
 go_wp2_with fail
 refine hK.out _ _ HQv2.out (fun hHeld => ?_)
 clear hK K
 try simp only [Act.put, List.setIfInBounds_toArray, List.set]
 refine rdA 3 (h := fun K hK => ?_)
 go_simp
 go_at_call 9
 refine (HS.out v2 HPv2.out).mono ?_
 rintro e v3 ⟨rfl, hb⟩
 have HBv3 := Lib.hid (stepB HBv2.out hb)
 have HQv3 := Lib.hid (MT.step HQv2.out hb)
 have HPv3 := Lib.hid (PIn.step HPv2.out hb)
 clear HBv2 HQv2 HPv2
 clear hHeld hb
 go_wp2_with fail
 refine hK.out _ _ HQv3.out (fun hHeld => ?_)
 clear hK K
 try simp only [Act.put, List.setIfInBounds_toArray, List.set]
 refine tkS (i := 4) (v := .bool false) (h := ?_)
 refine wpAnyH_done (by kernel_rfl) ?_ _
 have d0 : v3.cell? ⟨w.heap.size, 0, none⟩ = some (.int .i64 6) := (HQv3.out.cell 0).trans (by rw [← hk.out]; rfl)
 have d1 : v3.cell? ⟨w.heap.size, 1, none⟩ = some (.int .i64 p.id) := HQv3.out.cell 1
 generalize idR p.id = j at HC HV2
 by_cases hj : j = 0
 · subst hj
   go_wp2_with fail
   refine (HC.out v3).mono ?_
   rintro e w' ⟨rfl, rfl⟩
   go_wp2_with fail
   go_ret
   exact ⟨reti (natc HV2.out.symm), HBv3.out⟩
 · have qj : ((j : Int) != 0) = true := by simp [hj]
   clear hj
   go_wp2_with fail
   refine (HC.out v3).mono ?_
   rintro e w' ⟨rfl, rfl⟩
   go_wp2_with fail
   go_ret
   exact ⟨reti (natc HV2.out.symm), HBv3.out⟩
theorem rCheck6_7 (p : Pkt) (a : PA) (w : World) (h : PIn w p a) (hs : BigZ p) (hk0 : p.kind = 7) (hu : sameP p (usedP p) = true) :
 Calls Tryz.prog 13 #[pkV p a] w fun e w' => e = .returned (.int .i64 (checkP p)) ∧ Below w.heap.size w w' := by
 have hk := Lib.hid hk0
 have hz := hs.1.sz
 have ht := hs.1.tx
 have hq := used_lists (of_decide_eq_true hu : p = usedP p)
 have HU := Lib.hid (fun w => rUsed_any p a w (by omega))
 have HS : Hid (∀ w, PIn w p a → Calls Tryz.prog 9 #[pkV p a, pkV (usedP p) (usedA p a)] w fun e w' => e = .returned (.bool true) ∧ Below w.heap.size w w') := Lib.hid (fun w h => by
  have := rSameP_any p (usedP p) a (usedA p a) w h h.used hz hz.used
  rw [hu] at this; exact this)
 have HV := Lib.hid (checkP_in (by omega) hu)
 have HC := Lib.hid (fun w => rIdent_any p.id w)
 generalize checkP p = r at HV ⊢
 unfold pkV at *
 obtain ⟨w1, hw1, hb1, hm1⟩ := boxK w p a
 have c0 : w1.cell? ⟨w.heap.size, 0, none⟩ = some (.int .i64 p.kind) := hm1.cell 0
 have HQw1 := Lib.hid hm1
 have HBw1 := Lib.hid hb1
 have HPw1 := Lib.hid (h.step hb1)
 have HW1 := Lib.hid hw1
 clear hk0 hu h hs hz ht hq hb1 hm1 hw1
 have HV2 : Hid (r = idR p.id) := Lib.hid (HV.out.trans (by unfold bodyR; simp [hk.out]))
 clear HV
 rw [show p.kind = 7 from hk.out] at c0
 go_enter Tryz.func13, Tryz.ntmps13
 go_upto_region 1 with fail
 rw [← HW1.out]
 go_upto_region 3 with fail
 obtain ⟨v1, hv1⟩ : ∃ v1, v1 = World.drew w1 := ⟨_, rfl⟩
 have hbD : Below w1.heap.size w1 v1 := by rw [hv1]; exact (Below.refl _ _).drew
 have HBv1 := Lib.hid (stepB HBw1.out hbD)
 have HQv1 := Lib.hid (MT.step HQw1.out hbD)
 have HPv1 := Lib.hid (PIn.step HPw1.out hbD)
 clear HBw1 HQw1 HPw1
 have hbd : (fun w' => MT 38 w' w.heap.size (pkC p a)) (World.drew w1) := by rw [← hv1]; exact HQv1.out
 have hSD := HQv1.out
 have HWD := Lib.hid hv1
 clear hv1 hbD
 refine wp_region_held_drew (S := fun w' => MT 38 w' w.heap.size (pkC p a)) (by kernel_rfl) hbd (fun hHeld => ?_)
 rw [← HWD.out]
 clear hHeld
 have hHeld := hSD
 clear hSD hbd HWD
 refine tkP (i := 0) (h := ?_)
 refine tkP (i := 1) (h := ?_)
 refine rdA 2 (h := fun K hK => ?_)
 go_simp
 go_at_call 25
 refine (HU.out v1).mono ?_
 rintro e v2 ⟨rfl, hb⟩
 have HBv2 := Lib.hid (stepB HBv1.out hb)
 have HQv2 := Lib.hid (MT.step HQv1.out hb)
 have HPv2 := Lib.hid (PIn.step HPv1.out hb)
 clear HBv1 HQv1 HPv1
 clear hHeld hb
 go_wp2_with fail
 refine hK.out _ _ HQv2.out (fun hHeld => ?_)
 clear hK K
 try simp only [Act.put, List.setIfInBounds_toArray, List.set]
 refine rdA 3 (h := fun K hK => ?_)
 go_simp
 go_at_call 9
 refine (HS.out v2 HPv2.out).mono ?_
 rintro e v3 ⟨rfl, hb⟩
 have HBv3 := Lib.hid (stepB HBv2.out hb)
 have HQv3 := Lib.hid (MT.step HQv2.out hb)
 have HPv3 := Lib.hid (PIn.step HPv2.out hb)
 clear HBv2 HQv2 HPv2
 clear hHeld hb
 go_wp2_with fail
 refine hK.out _ _ HQv3.out (fun hHeld => ?_)
 clear hK K
 try simp only [Act.put, List.setIfInBounds_toArray, List.set]
 refine tkS (i := 4) (v := .bool false) (h := ?_)
 refine wpAnyH_done (by kernel_rfl) ?_ _
 have d0 : v3.cell? ⟨w.heap.size, 0, none⟩ = some (.int .i64 7) := (HQv3.out.cell 0).trans (by rw [← hk.out]; rfl)
 have d1 : v3.cell? ⟨w.heap.size, 1, none⟩ = some (.int .i64 p.id) := HQv3.out.cell 1
 generalize idR p.id = j at HC HV2
 by_cases hj : j = 0
 · subst hj
   go_wp2_with fail
   refine (HC.out v3).mono ?_
   rintro e w' ⟨rfl, rfl⟩
   go_wp2_with fail
   go_ret
   exact ⟨reti (natc HV2.out.symm), HBv3.out⟩
 · have qj : ((j : Int) != 0) = true := by simp [hj]
   clear hj
   go_wp2_with fail
   refine (HC.out v3).mono ?_
   rintro e w' ⟨rfl, rfl⟩
   go_wp2_with fail
   go_ret
   exact ⟨reti (natc HV2.out.symm), HBv3.out⟩
theorem rCheck6_2 (p : Pkt) (a : PA) (w : World) (h : PIn w p a) (hs : BigZ p) (hk0 : p.kind = 2) (hu : sameP p (usedP p) = true) :
 Calls Tryz.prog 13 #[pkV p a] w fun e w' => e = .returned (.int .i64 (checkP p)) ∧ Below w.heap.size w w' := by
 have hk := Lib.hid hk0
 have hz := hs.1.sz
 have ht := hs.1.tx
 have hq := used_lists (of_decide_eq_true hu : p = usedP p)
 have HU := Lib.hid (fun w => rUsed_any p a w (by omega))
 have HS : Hid (∀ w, PIn w p a → Calls Tryz.prog 9 #[pkV p a, pkV (usedP p) (usedA p a)] w fun e w' => e = .returned (.bool true) ∧ Below w.heap.size w w') := Lib.hid (fun w h => by
  have := rSameP_any p (usedP p) a (usedA p a) w h h.used hz hz.used
  rw [hu] at this; exact this)
 have HV := Lib.hid (checkP_in (by omega) hu)
 have HC := Lib.hid (fun w => rCode_any p.code w)
 have HB := Lib.hid (codR_B p.code)
 generalize checkP p = r at HV ⊢
 unfold pkV at *
 obtain ⟨w1, hw1, hb1, hm1⟩ := boxK w p a
 have c0 : w1.cell? ⟨w.heap.size, 0, none⟩ = some (.int .i64 p.kind) := hm1.cell 0
 have HQw1 := Lib.hid hm1
 have HBw1 := Lib.hid hb1
 have HPw1 := Lib.hid (h.step hb1)
 have HW1 := Lib.hid hw1
 clear hk0 hu h hs hz ht hq hb1 hm1 hw1
 have HV2 : Hid (r = ackR p) := Lib.hid (HV.out.trans (by unfold bodyR; simp [hk.out]))
 clear HV
 rw [show p.kind = 2 from hk.out] at c0
 go_enter Tryz.func13, Tryz.ntmps13
 go_upto_region 1 with fail
 rw [← HW1.out]
 go_upto_region 3 with fail
 obtain ⟨v1, hv1⟩ : ∃ v1, v1 = World.drew w1 := ⟨_, rfl⟩
 have hbD : Below w1.heap.size w1 v1 := by rw [hv1]; exact (Below.refl _ _).drew
 have HBv1 := Lib.hid (stepB HBw1.out hbD)
 have HQv1 := Lib.hid (MT.step HQw1.out hbD)
 have HPv1 := Lib.hid (PIn.step HPw1.out hbD)
 clear HBw1 HQw1 HPw1
 have hbd : (fun w' => MT 38 w' w.heap.size (pkC p a)) (World.drew w1) := by rw [← hv1]; exact HQv1.out
 have hSD := HQv1.out
 have HWD := Lib.hid hv1
 clear hv1 hbD
 refine wp_region_held_drew (S := fun w' => MT 38 w' w.heap.size (pkC p a)) (by kernel_rfl) hbd (fun hHeld => ?_)
 rw [← HWD.out]
 clear hHeld
 have hHeld := hSD
 clear hSD hbd HWD
 refine tkP (i := 0) (h := ?_)
 refine tkP (i := 1) (h := ?_)
 refine rdA 2 (h := fun K hK => ?_)
 go_simp
 go_at_call 25
 refine (HU.out v1).mono ?_
 rintro e v2 ⟨rfl, hb⟩
 have HBv2 := Lib.hid (stepB HBv1.out hb)
 have HQv2 := Lib.hid (MT.step HQv1.out hb)
 have HPv2 := Lib.hid (PIn.step HPv1.out hb)
 clear HBv1 HQv1 HPv1
 clear hHeld hb
 go_wp2_with fail
 refine hK.out _ _ HQv2.out (fun hHeld => ?_)
 clear hK K
 try simp only [Act.put, List.setIfInBounds_toArray, List.set]
 refine rdA 3 (h := fun K hK => ?_)
 go_simp
 go_at_call 9
 refine (HS.out v2 HPv2.out).mono ?_
 rintro e v3 ⟨rfl, hb⟩
 have HBv3 := Lib.hid (stepB HBv2.out hb)
 have HQv3 := Lib.hid (MT.step HQv2.out hb)
 have HPv3 := Lib.hid (PIn.step HPv2.out hb)
 clear HBv2 HQv2 HPv2
 clear hHeld hb
 go_wp2_with fail
 refine hK.out _ _ HQv3.out (fun hHeld => ?_)
 clear hK K
 try simp only [Act.put, List.setIfInBounds_toArray, List.set]
 refine tkS (i := 4) (v := .bool false) (h := ?_)
 refine wpAnyH_done (by kernel_rfl) ?_ _
 have d0 : v3.cell? ⟨w.heap.size, 0, none⟩ = some (.int .i64 2) := (HQv3.out.cell 0).trans (by rw [← hk.out]; rfl)
 have d30 : v3.cell? ⟨w.heap.size, 30, none⟩ = some (.int .i64 p.code) := HQv3.out.cell 30
 have d29 : v3.cell? ⟨w.heap.size, 29, none⟩ = some (.bool p.present) := HQv3.out.cell 29
 have HA : Hid (ackR p = if codR p.code ≠ 0 then codR p.code else if p.present = true ∧ p.code ≠ 0 then 28 else 0) := Lib.hid rfl
 generalize ackR p = ar at HA HV2
 generalize p.present = pr at d29 HA
 generalize codR p.code = cr at HB HA
 generalize codeB p.code = cb at HC HB
 cases cb
 · have HV3 : Hid (r = 1) := Lib.hid (by rw [HV2.out, HA.out, HB.out]; simp)
   go_wp2_with fail
   refine (HC.out v3).mono ?_
   rintro e w' ⟨rfl, rfl⟩
   go_wp2_with fail
   go_ret
   exact ⟨reti (natc HV3.out.symm), HBv3.out⟩
 · cases pr
   · have HV3 : Hid (r = 0) := Lib.hid (by rw [HV2.out, HA.out, HB.out]; simp)
     go_wp2_with fail
     refine (HC.out v3).mono ?_
     rintro e w' ⟨rfl, rfl⟩
     go_wp2_with fail
     go_ret
     exact ⟨reti (natc HV3.out.symm), HBv3.out⟩
   · by_cases hc : p.code = 0
     · have HV3 : Hid (r = 0) := Lib.hid (by rw [HV2.out, HA.out, HB.out]; simp [hc])
       have qc : (p.code != 0) = false := by rw [hc]; rfl
       clear HV2 HA HB hc
       go_wp2_with fail
       refine (HC.out v3).mono ?_
       rintro e w' ⟨rfl, rfl⟩
       go_wp2_with fail
       go_ret
       exact ⟨reti (natc HV3.out.symm), HBv3.out⟩
     · have HV3 : Hid (r = 28) := Lib.hid (by rw [HV2.out, HA.out, HB.out]; simp [hc])
       have qc : (p.code != 0) = true := by simp [hc]
       clear HV2 HA HB hc
       go_wp2_with fail
       refine (HC.out v3).mono ?_
       rintro e w' ⟨rfl, rfl⟩
       go_wp2_with fail
       go_ret
       exact ⟨reti (natc HV3.out.symm), HBv3.out⟩
theorem rCheck6_14 (p : Pkt) (a : PA) (w : World) (h : PIn w p a) (hs : BigZ p) (hk0 : p.kind = 14) (hu : sameP p (usedP p) = true) :
 Calls Tryz.prog 13 #[pkV p a] w fun e w' => e = .returned (.int .i64 (checkP p)) ∧ Below w.heap.size w w' := by
 have hk := Lib.hid hk0
 have hz := hs.1.sz
 have ht := hs.1.tx
 have hq := used_lists (of_decide_eq_true hu : p = usedP p)
 have HU := Lib.hid (fun w => rUsed_any p a w (by omega))
 have HS : Hid (∀ w, PIn w p a → Calls Tryz.prog 9 #[pkV p a, pkV (usedP p) (usedA p a)] w fun e w' => e = .returned (.bool true) ∧ Below w.heap.size w w') := Lib.hid (fun w h => by
  have := rSameP_any p (usedP p) a (usedA p a) w h h.used hz hz.used
  rw [hu] at this; exact this)
 have HV := Lib.hid (checkP_in (by omega) hu)
 have HC := Lib.hid (fun w => rCode_any p.code w)
 have HB := Lib.hid (codR_B p.code)
 have hpr := hq.2.2.2 hk0
 generalize checkP p = r at HV ⊢
 unfold pkV at *
 obtain ⟨w1, hw1, hb1, hm1⟩ := boxK w p a
 have c0 : w1.cell? ⟨w.heap.size, 0, none⟩ = some (.int .i64 p.kind) := hm1.cell 0
 have HQw1 := Lib.hid hm1
 have HBw1 := Lib.hid hb1
 have HPw1 := Lib.hid (h.step hb1)
 have HW1 := Lib.hid hw1
 clear hk0 hu h hs hz ht hq hb1 hm1 hw1
 have HV2 : Hid (r = codR p.code) := Lib.hid (HV.out.trans (by unfold bodyR; simp [hk.out]))
 clear HV
 rw [show p.kind = 14 from hk.out] at c0
 go_enter Tryz.func13, Tryz.ntmps13
 go_upto_region 1 with fail
 rw [← HW1.out]
 go_upto_region 3 with fail
 obtain ⟨v1, hv1⟩ : ∃ v1, v1 = World.drew w1 := ⟨_, rfl⟩
 have hbD : Below w1.heap.size w1 v1 := by rw [hv1]; exact (Below.refl _ _).drew
 have HBv1 := Lib.hid (stepB HBw1.out hbD)
 have HQv1 := Lib.hid (MT.step HQw1.out hbD)
 have HPv1 := Lib.hid (PIn.step HPw1.out hbD)
 clear HBw1 HQw1 HPw1
 have hbd : (fun w' => MT 38 w' w.heap.size (pkC p a)) (World.drew w1) := by rw [← hv1]; exact HQv1.out
 have hSD := HQv1.out
 have HWD := Lib.hid hv1
 clear hv1 hbD
 refine wp_region_held_drew (S := fun w' => MT 38 w' w.heap.size (pkC p a)) (by kernel_rfl) hbd (fun hHeld => ?_)
 rw [← HWD.out]
 clear hHeld
 have hHeld := hSD
 clear hSD hbd HWD
 refine tkP (i := 0) (h := ?_)
 refine tkP (i := 1) (h := ?_)
 refine rdA 2 (h := fun K hK => ?_)
 go_simp
 go_at_call 25
 refine (HU.out v1).mono ?_
 rintro e v2 ⟨rfl, hb⟩
 have HBv2 := Lib.hid (stepB HBv1.out hb)
 have HQv2 := Lib.hid (MT.step HQv1.out hb)
 have HPv2 := Lib.hid (PIn.step HPv1.out hb)
 clear HBv1 HQv1 HPv1
 clear hHeld hb
 go_wp2_with fail
 refine hK.out _ _ HQv2.out (fun hHeld => ?_)
 clear hK K
 try simp only [Act.put, List.setIfInBounds_toArray, List.set]
 refine rdA 3 (h := fun K hK => ?_)
 go_simp
 go_at_call 9
 refine (HS.out v2 HPv2.out).mono ?_
 rintro e v3 ⟨rfl, hb⟩
 have HBv3 := Lib.hid (stepB HBv2.out hb)
 have HQv3 := Lib.hid (MT.step HQv2.out hb)
 have HPv3 := Lib.hid (PIn.step HPv2.out hb)
 clear HBv2 HQv2 HPv2
 clear hHeld hb
 go_wp2_with fail
 refine hK.out _ _ HQv3.out (fun hHeld => ?_)
 clear hK K
 try simp only [Act.put, List.setIfInBounds_toArray, List.set]
 refine tkS (i := 4) (v := .bool false) (h := ?_)
 refine wpAnyH_done (by kernel_rfl) ?_ _
 have d0 : v3.cell? ⟨w.heap.size, 0, none⟩ = some (.int .i64 14) := (HQv3.out.cell 0).trans (by rw [← hk.out]; rfl)
 have d30 : v3.cell? ⟨w.heap.size, 30, none⟩ = some (.int .i64 p.code) := HQv3.out.cell 30
 have d29 : v3.cell? ⟨w.heap.size, 29, none⟩ = some (.bool false) := (HQv3.out.cell 29).trans (by show some (Value.bool p.present) = _; rw [hpr])
 clear hpr
 generalize codR p.code = cr at HB HV2
 generalize codeB p.code = cb at HC HB
 cases cb
 · have HV3 : Hid (r = 1) := Lib.hid (by rw [HV2.out, HB.out]; simp)
   go_wp2_with fail
   refine (HC.out v3).mono ?_
   rintro e w' ⟨rfl, rfl⟩
   go_wp2_with fail
   go_ret
   exact ⟨reti (natc HV3.out.symm), HBv3.out⟩
 · have HV3 : Hid (r = 0) := Lib.hid (by rw [HV2.out, HB.out]; simp)
   go_wp2_with fail
   refine (HC.out v3).mono ?_
   rintro e w' ⟨rfl, rfl⟩
   go_wp2_with fail
   go_ret
   exact ⟨reti (natc HV3.out.symm), HBv3.out⟩
theorem rCheck6_8 (p : Pkt) (a : PA) (w : World) (h : PIn w p a) (hs : BigZ p) (hk0 : p.kind = 8) (hu : sameP p (usedP p) = true) :
 Calls Tryz.prog 13 #[pkV p a] w fun e w' => e = .returned (.int .i64 (checkP p)) ∧ Below w.heap.size w w' := by
 have hk := Lib.hid hk0
 have hz := hs.1.sz
 have ht := hs.1.tx
 have hq := used_lists (of_decide_eq_true hu : p = usedP p)
 have HU := Lib.hid (fun w => rUsed_any p a w (by omega))
 have HS : Hid (∀ w, PIn w p a → Calls Tryz.prog 9 #[pkV p a, pkV (usedP p) (usedA p a)] w fun e w' => e = .returned (.bool true) ∧ Below w.heap.size w w') := Lib.hid (fun w h => by
  have := rSameP_any p (usedP p) a (usedA p a) w h h.used hz hz.used
  rw [hu] at this; exact this)
 have HV := Lib.hid (checkP_in (by omega) hu)
 obtain ⟨ho1, ho2⟩ := hq.1 hk0
 have HC := Lib.hid (fun w => rIdent_any p.id w)
 have HN := Lib.hid (fun w => rCountL_any p.subs.length w)
 have HE : Hid (∀ w, PIn w p a → Calls Tryz.prog 31 #[pkV p a] w fun e w' => e = .returned (.int .i64 (elemR p)) ∧ Below w.heap.size w w') := Lib.hid (fun w h => elements_any p a w h hz ht)
 have HL : Hid (listR p.id p.subs subR = if idR p.id ≠ 0 then idR p.id else if lenR p.subs.length ≠ 0 then lenR p.subs.length else firstE subR p.subs) := Lib.hid rfl
 have HM : Hid (elemR p = firstE subR p.subs) := Lib.hid (by unfold elemR; rw [ho1, ho2]; simp [firstE]; omega)
 have h40 : p.subs.length ≤ 9223372036854775806 := by have := hs.1.sz; cases this; assumption
 generalize checkP p = r at HV ⊢
 unfold pkV at *
 obtain ⟨w1, hw1, hb1, hm1⟩ := boxK w p a
 have c0 : w1.cell? ⟨w.heap.size, 0, none⟩ = some (.int .i64 p.kind) := hm1.cell 0
 have HQw1 := Lib.hid hm1
 have HBw1 := Lib.hid hb1
 have HPw1 := Lib.hid (h.step hb1)
 have HW1 := Lib.hid hw1
 clear hk0 hu h hs hz ht hq hb1 hm1 hw1
 have HV2 : Hid (r = listR p.id p.subs subR) := Lib.hid (HV.out.trans (by unfold bodyR; simp [hk.out]))
 clear HV
 rw [show p.kind = 8 from hk.out] at c0
 go_enter Tryz.func13, Tryz.ntmps13
 go_upto_region 1 with fail
 rw [← HW1.out]
 go_upto_region 3 with fail
 obtain ⟨v1, hv1⟩ : ∃ v1, v1 = World.drew w1 := ⟨_, rfl⟩
 have hbD : Below w1.heap.size w1 v1 := by rw [hv1]; exact (Below.refl _ _).drew
 have HBv1 := Lib.hid (stepB HBw1.out hbD)
 have HQv1 := Lib.hid (MT.step HQw1.out hbD)
 have HPv1 := Lib.hid (PIn.step HPw1.out hbD)
 clear HBw1 HQw1 HPw1
 have hbd : (fun w' => MT 38 w' w.heap.size (pkC p a)) (World.drew w1) := by rw [← hv1]; exact HQv1.out
 have hSD := HQv1.out
 have HWD := Lib.hid hv1
 clear hv1 hbD
 refine wp_region_held_drew (S := fun w' => MT 38 w' w.heap.size (pkC p a)) (by kernel_rfl) hbd (fun hHeld => ?_)
 rw [← HWD.out]
 clear hHeld
 have hHeld := hSD
 clear hSD hbd HWD
 refine tkP (i := 0) (h := ?_)
 refine tkP (i := 1) (h := ?_)
 refine rdA 2 (h := fun K hK => ?_)
 go_simp
 go_at_call 25
 refine (HU.out v1).mono ?_
 rintro e v2 ⟨rfl, hb⟩
 have HBv2 := Lib.hid (stepB HBv1.out hb)
 have HQv2 := Lib.hid (MT.step HQv1.out hb)
 have HPv2 := Lib.hid (PIn.step HPv1.out hb)
 clear HBv1 HQv1 HPv1
 clear hHeld hb
 go_wp2_with fail
 refine hK.out _ _ HQv2.out (fun hHeld => ?_)
 clear hK K
 try simp only [Act.put, List.setIfInBounds_toArray, List.set]
 refine rdA 3 (h := fun K hK => ?_)
 go_simp
 go_at_call 9
 refine (HS.out v2 HPv2.out).mono ?_
 rintro e v3 ⟨rfl, hb⟩
 have HBv3 := Lib.hid (stepB HBv2.out hb)
 have HQv3 := Lib.hid (MT.step HQv2.out hb)
 have HPv3 := Lib.hid (PIn.step HPv2.out hb)
 clear HBv2 HQv2 HPv2
 clear hHeld hb
 go_wp2_with fail
 refine hK.out _ _ HQv3.out (fun hHeld => ?_)
 clear hK K
 try simp only [Act.put, List.setIfInBounds_toArray, List.set]
 refine tkS (i := 4) (v := .bool false) (h := ?_)
 refine wpAnyH_done (by kernel_rfl) ?_ _
 have d0 : v3.cell? ⟨w.heap.size, 0, none⟩ = some (.int .i64 8) := (HQv3.out.cell 0).trans (by rw [← hk.out]; rfl)
 have d1 : v3.cell? ⟨w.heap.size, 1, none⟩ = some (.int .i64 p.id) := HQv3.out.cell 1
 have e31 : v3.cell? ⟨w.heap.size, 31, none⟩ = some (.slice a.s p.subs.length a.sc) := HQv3.out.cell 31
 have e32 : v3.cell? ⟨w.heap.size, 32, none⟩ = some (.slice a.f 0 a.fc) := (HQv3.out.cell 32).trans (by show some (Value.slice _ p.filters.length _) = _; rw [ho1]; rfl)
 have e33 : v3.cell? ⟨w.heap.size, 33, none⟩ = some (.slice a.c 0 a.cc) := (HQv3.out.cell 33).trans (by show some (Value.slice _ p.codes.length _) = _; rw [ho2]; rfl)
 clear ho1 ho2
 generalize listR p.id p.subs subR = lr at HL HV2
 generalize elemR p = er at HE HM
 generalize firstE subR p.subs = fe at HL HM
 generalize idR p.id = j at HC HL
 generalize lenR p.subs.length = ln at HN HL
 generalize p.subs.length = n at *
 by_cases hj : j = 0
 · by_cases hn : ln = 0
   · have HV3 : Hid (r = er) := Lib.hid (by rw [HV2.out, HL.out, hj, hn, HM.out]; simp)
     subst hj hn
     clear HV2 HL HM
     go_wp2_with fail
     refine (HC.out v3).mono ?_
     rintro e w' ⟨rfl, rfl⟩
     go_wp2_with fail
     refine (HN.out v3).mono ?_
     rintro e w' ⟨rfl, rfl⟩
     go_wp2_with (refine wpList_load_all (by rfl) 38 (.tmp 1) rfl w.heap.size rfl 38 _ (0, 0) _ HQv3.out Tryz.underlying38 rfl info33 ?_)
     refine (HE.out v3 HPv3.out).mono ?_
     rintro e w9 ⟨rfl, hb⟩
     have HB9 := Lib.hid (stepB HBv3.out hb)
     clear hb
     go_wp2_with fail
     go_ret
     exact ⟨reti (natc HV3.out.symm), HB9.out⟩
   · have HV3 : Hid (r = ln) := Lib.hid (by rw [HV2.out, HL.out, hj]; simp [hn])
     have qn : ((ln : Int) != 0) = true := by simp [hn]
     subst hj
     clear HV2 HL HM hn
     go_wp2_with fail
     refine (HC.out v3).mono ?_
     rintro e w' ⟨rfl, rfl⟩
     go_wp2_with fail
     refine (HN.out v3).mono ?_
     rintro e w' ⟨rfl, rfl⟩
     go_wp2_with fail
     go_ret
     exact ⟨reti (natc HV3.out.symm), HBv3.out⟩
 · have HV3 : Hid (r = j) := Lib.hid (by rw [HV2.out, HL.out]; simp [hj])
   have qj : ((j : Int) != 0) = true := by simp [hj]
   clear HV2 HL HM hj
   go_wp2_with fail
   refine (HC.out v3).mono ?_
   rintro e w' ⟨rfl, rfl⟩
   go_wp2_with fail
   go_ret
   exact ⟨reti (natc HV3.out.symm), HBv3.out⟩
theorem rCheck6_10 (p : Pkt) (a : PA) (w : World) (h : PIn w p a) (hs : BigZ p) (hk0 : p.kind = 10) (hu : sameP p (usedP p) = true) :
 Calls Tryz.prog 13 #[pkV p a] w fun e w' => e = .returned (.int .i64 (checkP p)) ∧ Below w.heap.size w w' := by
 have hk := Lib.hid hk0
 have hz := hs.1.sz
 have ht := hs.1.tx
 have hq := used_lists (of_decide_eq_true hu : p = usedP p)
 have HU := Lib.hid (fun w => rUsed_any p a w (by omega))
 have HS : Hid (∀ w, PIn w p a → Calls Tryz.prog 9 #[pkV p a, pkV (usedP p) (usedA p a)] w fun e w' => e = .returned (.bool true) ∧ Below w.heap.size w w') := Lib.hid (fun w h => by
  have := rSameP_any p (usedP p) a (usedA p a) w h h.used hz hz.used
  rw [hu] at this; exact this)
 have HV := Lib.hid (checkP_in (by omega) hu)
 obtain ⟨ho1, ho2⟩ := hq.2.1 hk0
 have HC := Lib.hid (fun w => rIdent_any p.id w)
 have HN := Lib.hid (fun w => rCountL_any p.filters.length w)
 have HE : Hid (∀ w, PIn w p a → Calls Tryz.prog 31 #[pkV p a] w fun e w' => e = .returned (.int .i64 (elemR p)) ∧ Below w.heap.size w w') := Lib.hid (fun w h => elements_any p a w h hz ht)
 have HL : Hid (listR p.id p.filters filR = if idR p.id ≠ 0 then idR p.id else if lenR p.filters.length ≠ 0 then lenR p.filters.length else firstE filR p.filters) := Lib.hid rfl
 have HM : Hid (elemR p = firstE filR p.filters) := Lib.hid (by unfold elemR; rw [ho1, ho2]; simp [firstE]; omega)
 have h40 : p.filters.length ≤ 9223372036854775806 := by have := hs.1.sz; cases this; assumption
 generalize checkP p = r at HV ⊢
 unfold pkV at *
 obtain ⟨w1, hw1, hb1, hm1⟩ := boxK w p a
 have c0 : w1.cell? ⟨w.heap.size, 0, none⟩ = some (.int .i64 p.kind) := hm1.cell 0
 have HQw1 := Lib.hid hm1
 have HBw1 := Lib.hid hb1
 have HPw1 := Lib.hid (h.step hb1)
 have HW1 := Lib.hid hw1
 clear hk0 hu h hs hz ht hq hb1 hm1 hw1
 have HV2 : Hid (r = listR p.id p.filters filR) := Lib.hid (HV.out.trans (by unfold bodyR; simp [hk.out]))
 clear HV
 rw [show p.kind = 10 from hk.out] at c0
 go_enter Tryz.func13, Tryz.ntmps13
 go_upto_region 1 with fail
 rw [← HW1.out]
 go_upto_region 3 with fail
 obtain ⟨v1, hv1⟩ : ∃ v1, v1 = World.drew w1 := ⟨_, rfl⟩
 have hbD : Below w1.heap.size w1 v1 := by rw [hv1]; exact (Below.refl _ _).drew
 have HBv1 := Lib.hid (stepB HBw1.out hbD)
 have HQv1 := Lib.hid (MT.step HQw1.out hbD)
 have HPv1 := Lib.hid (PIn.step HPw1.out hbD)
 clear HBw1 HQw1 HPw1
 have hbd : (fun w' => MT 38 w' w.heap.size (pkC p a)) (World.drew w1) := by rw [← hv1]; exact HQv1.out
 have hSD := HQv1.out
 have HWD := Lib.hid hv1
 clear hv1 hbD
 refine wp_region_held_drew (S := fun w' => MT 38 w' w.heap.size (pkC p a)) (by kernel_rfl) hbd (fun hHeld => ?_)
 rw [← HWD.out]
 clear hHeld
 have hHeld := hSD
 clear hSD hbd HWD
 refine tkP (i := 0) (h := ?_)
 refine tkP (i := 1) (h := ?_)
 refine rdA 2 (h := fun K hK => ?_)
 go_simp
 go_at_call 25
 refine (HU.out v1).mono ?_
 rintro e v2 ⟨rfl, hb⟩
 have HBv2 := Lib.hid (stepB HBv1.out hb)
 have HQv2 := Lib.hid (MT.step HQv1.out hb)
 have HPv2 := Lib.hid (PIn.step HPv1.out hb)
 clear HBv1 HQv1 HPv1
 clear hHeld hb
 go_wp2_with fail
 refine hK.out _ _ HQv2.out (fun hHeld => ?_)
 clear hK K
 try simp only [Act.put, List.setIfInBounds_toArray, List.set]
 refine rdA 3 (h := fun K hK => ?_)
 go_simp
 go_at_call 9
 refine (HS.out v2 HPv2.out).mono ?_
 rintro e v3 ⟨rfl, hb⟩
 have HBv3 := Lib.hid (stepB HBv2.out hb)
 have HQv3 := Lib.hid (MT.step HQv2.out hb)
 have HPv3 := Lib.hid (PIn.step HPv2.out hb)
 clear HBv2 HQv2 HPv2
 clear hHeld hb
 go_wp2_with fail
 refine hK.out _ _ HQv3.out (fun hHeld => ?_)
 clear hK K
 try simp only [Act.put, List.setIfInBounds_toArray, List.set]
 refine tkS (i := 4) (v := .bool false) (h := ?_)
 refine wpAnyH_done (by kernel_rfl) ?_ _
 have d0 : v3.cell? ⟨w.heap.size, 0, none⟩ = some (.int .i64 10) := (HQv3.out.cell 0).trans (by rw [← hk.out]; rfl)
 have d1 : v3.cell? ⟨w.heap.size, 1, none⟩ = some (.int .i64 p.id) := HQv3.out.cell 1
 have e32 : v3.cell? ⟨w.heap.size, 32, none⟩ = some (.slice a.f p.filters.length a.fc) := HQv3.out.cell 32
 have e31 : v3.cell? ⟨w.heap.size, 31, none⟩ = some (.slice a.s 0 a.sc) := (HQv3.out.cell 31).trans (by show some (Value.slice _ p.subs.length _) = _; rw [ho1]; rfl)
 have e33 : v3.cell? ⟨w.heap.size, 33, none⟩ = some (.slice a.c 0 a.cc) := (HQv3.out.cell 33).trans (by show some (Value.slice _ p.codes.length _) = _; rw [ho2]; rfl)
 clear ho1 ho2
 generalize listR p.id p.filters filR = lr at HL HV2
 generalize elemR p = er at HE HM
 generalize firstE filR p.filters = fe at HL HM
 generalize idR p.id = j at HC HL
 generalize lenR p.filters.length = ln at HN HL
 generalize p.filters.length = n at *
 by_cases hj : j = 0
 · by_cases hn : ln = 0
   · have HV3 : Hid (r = er) := Lib.hid (by rw [HV2.out, HL.out, hj, hn, HM.out]; simp)
     subst hj hn
     clear HV2 HL HM
     go_wp2_with fail
     refine (HC.out v3).mono ?_
     rintro e w' ⟨rfl, rfl⟩
     go_wp2_with fail
     refine (HN.out v3).mono ?_
     rintro e w' ⟨rfl, rfl⟩
     go_wp2_with (refine wpList_load_all (by rfl) 38 (.tmp 1) rfl w.heap.size rfl 38 _ (0, 0) _ HQv3.out Tryz.underlying38 rfl info33 ?_)
     refine (HE.out v3 HPv3.out).mono ?_
     rintro e w9 ⟨rfl, hb⟩
     have HB9 := Lib.hid (stepB HBv3.out hb)
     clear hb
     go_wp2_with fail
     go_ret
     exact ⟨reti (natc HV3.out.symm), HB9.out⟩
   · have HV3 : Hid (r = ln) := Lib.hid (by rw [HV2.out, HL.out, hj]; simp [hn])
     have qn : ((ln : Int) != 0) = true := by simp [hn]
     subst hj
     clear HV2 HL HM hn
     go_wp2_with fail
     refine (HC.out v3).mono ?_
     rintro e w' ⟨rfl, rfl⟩
     go_wp2_with fail
     refine (HN.out v3).mono ?_
     rintro e w' ⟨rfl, rfl⟩
     go_wp2_with fail
     go_ret
     exact ⟨reti (natc HV3.out.symm), HBv3.out⟩
 · have HV3 : Hid (r = j) := Lib.hid (by rw [HV2.out, HL.out]; simp [hj])
   have qj : ((j : Int) != 0) = true := by simp [hj]
   clear HV2 HL HM hj
   go_wp2_with fail
   refine (HC.out v3).mono ?_
   rintro e w' ⟨rfl, rfl⟩
   go_wp2_with fail
   go_ret
   exact ⟨reti (natc HV3.out.symm), HBv3.out⟩
theorem rCheck6_9 (p : Pkt) (a : PA) (w : World) (h : PIn w p a) (hs : BigZ p) (hk0 : p.kind = 9) (hu : sameP p (usedP p) = true) :
 Calls Tryz.prog 13 #[pkV p a] w fun e w' => e = .returned (.int .i64 (checkP p)) ∧ Below w.heap.size w w' := by
 have hk := Lib.hid hk0
 have hz := hs.1.sz
 have ht := hs.1.tx
 have hq := used_lists (of_decide_eq_true hu : p = usedP p)
 have HU := Lib.hid (fun w => rUsed_any p a w (by omega))
 have HS : Hid (∀ w, PIn w p a → Calls Tryz.prog 9 #[pkV p a, pkV (usedP p) (usedA p a)] w fun e w' => e = .returned (.bool true) ∧ Below w.heap.size w w') := Lib.hid (fun w h => by
  have := rSameP_any p (usedP p) a (usedA p a) w h h.used hz hz.used
  rw [hu] at this; exact this)
 have HV := Lib.hid (checkP_in (by omega) hu)
 obtain ⟨ho1, ho2⟩ := hq.2.2.1 (by omega)
 have HC := Lib.hid (fun w => rIdent_any p.id w)
 have HN := Lib.hid (fun w => rCountL_any p.codes.length w)
 have HE : Hid (∀ w, PIn w p a → Calls Tryz.prog 31 #[pkV p a] w fun e w' => e = .returned (.int .i64 (elemR p)) ∧ Below w.heap.size w w') := Lib.hid (fun w h => elements_any p a w h hz ht)
 have HL : Hid (listR p.id p.codes codR = if idR p.id ≠ 0 then idR p.id else if lenR p.codes.length ≠ 0 then lenR p.codes.length else firstE codR p.codes) := Lib.hid rfl
 have HM : Hid (elemR p = firstE codR p.codes) := Lib.hid (by unfold elemR; rw [ho1, ho2]; simp [firstE])
 have h40 : p.codes.length ≤ 9223372036854775806 := by have := hs.1.sz; cases this; assumption
 generalize checkP p = r at HV ⊢
 unfold pkV at *
 obtain ⟨w1, hw1, hb1, hm1⟩ := boxK w p a
 have c0 : w1.cell? ⟨w.heap.size, 0, none⟩ = some (.int .i64 p.kind) := hm1.cell 0
 have HQw1 := Lib.hid hm1
 have HBw1 := Lib.hid hb1
 have HPw1 := Lib.hid (h.step hb1)
 have HW1 := Lib.hid hw1
 clear hk0 hu h hs hz ht hq hb1 hm1 hw1
 have HV2 : Hid (r = listR p.id p.codes codR) := Lib.hid (HV.out.trans (by unfold bodyR; simp [hk.out]))
 clear HV
 rw [show p.kind = 9 from hk.out] at c0
 go_enter Tryz.func13, Tryz.ntmps13
 go_upto_region 1 with fail
 rw [← HW1.out]
 go_upto_region 3 with fail
 obtain ⟨v1, hv1⟩ : ∃ v1, v1 = World.drew w1 := ⟨_, rfl⟩
 have hbD : Below w1.heap.size w1 v1 := by rw [hv1]; exact (Below.refl _ _).drew
 have HBv1 := Lib.hid (stepB HBw1.out hbD)
 have HQv1 := Lib.hid (MT.step HQw1.out hbD)
 have HPv1 := Lib.hid (PIn.step HPw1.out hbD)
 clear HBw1 HQw1 HPw1
 have hbd : (fun w' => MT 38 w' w.heap.size (pkC p a)) (World.drew w1) := by rw [← hv1]; exact HQv1.out
 have hSD := HQv1.out
 have HWD := Lib.hid hv1
 clear hv1 hbD
 refine wp_region_held_drew (S := fun w' => MT 38 w' w.heap.size (pkC p a)) (by kernel_rfl) hbd (fun hHeld => ?_)
 rw [← HWD.out]
 clear hHeld
 have hHeld := hSD
 clear hSD hbd HWD
 refine tkP (i := 0) (h := ?_)
 refine tkP (i := 1) (h := ?_)
 refine rdA 2 (h := fun K hK => ?_)
 go_simp
 go_at_call 25
 refine (HU.out v1).mono ?_
 rintro e v2 ⟨rfl, hb⟩
 have HBv2 := Lib.hid (stepB HBv1.out hb)
 have HQv2 := Lib.hid (MT.step HQv1.out hb)
 have HPv2 := Lib.hid (PIn.step HPv1.out hb)
 clear HBv1 HQv1 HPv1
 clear hHeld hb
 go_wp2_with fail
 refine hK.out _ _ HQv2.out (fun hHeld => ?_)
 clear hK K
 try simp only [Act.put, List.setIfInBounds_toArray, List.set]
 refine rdA 3 (h := fun K hK => ?_)
 go_simp
 go_at_call 9
 refine (HS.out v2 HPv2.out).mono ?_
 rintro e v3 ⟨rfl, hb⟩
 have HBv3 := Lib.hid (stepB HBv2.out hb)
 have HQv3 := Lib.hid (MT.step HQv2.out hb)
 have HPv3 := Lib.hid (PIn.step HPv2.out hb)
 clear HBv2 HQv2 HPv2
 clear hHeld hb
 go_wp2_with fail
 refine hK.out _ _ HQv3.out (fun hHeld => ?_)
 clear hK K
 try simp only [Act.put, List.setIfInBounds_toArray, List.set]
 refine tkS (i := 4) (v := .bool false) (h := ?_)
 refine wpAnyH_done (by kernel_rfl) ?_ _
 have d0 : v3.cell? ⟨w.heap.size, 0, none⟩ = some (.int .i64 9) := (HQv3.out.cell 0).trans (by rw [← hk.out]; rfl)
 have d1 : v3.cell? ⟨w.heap.size, 1, none⟩ = some (.int .i64 p.id) := HQv3.out.cell 1
 have e33 : v3.cell? ⟨w.heap.size, 33, none⟩ = some (.slice a.c p.codes.length a.cc) := HQv3.out.cell 33
 have e31 : v3.cell? ⟨w.heap.size, 31, none⟩ = some (.slice a.s 0 a.sc) := (HQv3.out.cell 31).trans (by show some (Value.slice _ p.subs.length _) = _; rw [ho1]; rfl)
 have e32 : v3.cell? ⟨w.heap.size, 32, none⟩ = some (.slice a.f 0 a.fc) := (HQv3.out.cell 32).trans (by show some (Value.slice _ p.filters.length _) = _; rw [ho2]; rfl)
 clear ho1 ho2
 generalize listR p.id p.codes codR = lr at HL HV2
 generalize elemR p = er at HE HM
 generalize firstE codR p.codes = fe at HL HM
 generalize idR p.id = j at HC HL
 generalize lenR p.codes.length = ln at HN HL
 generalize p.codes.length = n at *
 by_cases hj : j = 0
 · by_cases hn : ln = 0
   · have HV3 : Hid (r = er) := Lib.hid (by rw [HV2.out, HL.out, hj, hn, HM.out]; simp)
     subst hj hn
     clear HV2 HL HM
     go_wp2_with fail
     refine (HC.out v3).mono ?_
     rintro e w' ⟨rfl, rfl⟩
     go_wp2_with fail
     refine (HN.out v3).mono ?_
     rintro e w' ⟨rfl, rfl⟩
     go_wp2_with (refine wpList_load_all (by rfl) 38 (.tmp 1) rfl w.heap.size rfl 38 _ (0, 0) _ HQv3.out Tryz.underlying38 rfl info33 ?_)
     refine (HE.out v3 HPv3.out).mono ?_
     rintro e w9 ⟨rfl, hb⟩
     have HB9 := Lib.hid (stepB HBv3.out hb)
     clear hb
     go_wp2_with fail
     go_ret
     exact ⟨reti (natc HV3.out.symm), HB9.out⟩
   · have HV3 : Hid (r = ln) := Lib.hid (by rw [HV2.out, HL.out, hj]; simp [hn])
     have qn : ((ln : Int) != 0) = true := by simp [hn]
     subst hj
     clear HV2 HL HM hn
     go_wp2_with fail
     refine (HC.out v3).mono ?_
     rintro e w' ⟨rfl, rfl⟩
     go_wp2_with fail
     refine (HN.out v3).mono ?_
     rintro e w' ⟨rfl, rfl⟩
     go_wp2_with fail
     go_ret
     exact ⟨reti (natc HV3.out.symm), HBv3.out⟩
 · have HV3 : Hid (r = j) := Lib.hid (by rw [HV2.out, HL.out]; simp [hj])
   have qj : ((j : Int) != 0) = true := by simp [hj]
   clear HV2 HL HM hj
   go_wp2_with fail
   refine (HC.out v3).mono ?_
   rintro e w' ⟨rfl, rfl⟩
   go_wp2_with fail
   go_ret
   exact ⟨reti (natc HV3.out.symm), HBv3.out⟩
theorem rCheck6_11 (p : Pkt) (a : PA) (w : World) (h : PIn w p a) (hs : BigZ p) (hk0 : p.kind = 11) (hu : sameP p (usedP p) = true) :
 Calls Tryz.prog 13 #[pkV p a] w fun e w' => e = .returned (.int .i64 (checkP p)) ∧ Below w.heap.size w w' := by
 have hk := Lib.hid hk0
 have hz := hs.1.sz
 have ht := hs.1.tx
 have hq := used_lists (of_decide_eq_true hu : p = usedP p)
 have HU := Lib.hid (fun w => rUsed_any p a w (by omega))
 have HS : Hid (∀ w, PIn w p a → Calls Tryz.prog 9 #[pkV p a, pkV (usedP p) (usedA p a)] w fun e w' => e = .returned (.bool true) ∧ Below w.heap.size w w') := Lib.hid (fun w h => by
  have := rSameP_any p (usedP p) a (usedA p a) w h h.used hz hz.used
  rw [hu] at this; exact this)
 have HV := Lib.hid (checkP_in (by omega) hu)
 obtain ⟨ho1, ho2⟩ := hq.2.2.1 (by omega)
 have HC := Lib.hid (fun w => rIdent_any p.id w)
 have HN := Lib.hid (fun w => rCountL_any p.codes.length w)
 have HE : Hid (∀ w, PIn w p a → Calls Tryz.prog 31 #[pkV p a] w fun e w' => e = .returned (.int .i64 (elemR p)) ∧ Below w.heap.size w w') := Lib.hid (fun w h => elements_any p a w h hz ht)
 have HL : Hid (listR p.id p.codes codR = if idR p.id ≠ 0 then idR p.id else if lenR p.codes.length ≠ 0 then lenR p.codes.length else firstE codR p.codes) := Lib.hid rfl
 have HM : Hid (elemR p = firstE codR p.codes) := Lib.hid (by unfold elemR; rw [ho1, ho2]; simp [firstE])
 have h40 : p.codes.length ≤ 9223372036854775806 := by have := hs.1.sz; cases this; assumption
 generalize checkP p = r at HV ⊢
 unfold pkV at *
 obtain ⟨w1, hw1, hb1, hm1⟩ := boxK w p a
 have c0 : w1.cell? ⟨w.heap.size, 0, none⟩ = some (.int .i64 p.kind) := hm1.cell 0
 have HQw1 := Lib.hid hm1
 have HBw1 := Lib.hid hb1
 have HPw1 := Lib.hid (h.step hb1)
 have HW1 := Lib.hid hw1
 clear hk0 hu h hs hz ht hq hb1 hm1 hw1
 have HV2 : Hid (r = listR p.id p.codes codR) := Lib.hid (HV.out.trans (by unfold bodyR; simp [hk.out]))
 clear HV
 rw [show p.kind = 11 from hk.out] at c0
 go_enter Tryz.func13, Tryz.ntmps13
 go_upto_region 1 with fail
 rw [← HW1.out]
 go_upto_region 3 with fail
 obtain ⟨v1, hv1⟩ : ∃ v1, v1 = World.drew w1 := ⟨_, rfl⟩
 have hbD : Below w1.heap.size w1 v1 := by rw [hv1]; exact (Below.refl _ _).drew
 have HBv1 := Lib.hid (stepB HBw1.out hbD)
 have HQv1 := Lib.hid (MT.step HQw1.out hbD)
 have HPv1 := Lib.hid (PIn.step HPw1.out hbD)
 clear HBw1 HQw1 HPw1
 have hbd : (fun w' => MT 38 w' w.heap.size (pkC p a)) (World.drew w1) := by rw [← hv1]; exact HQv1.out
 have hSD := HQv1.out
 have HWD := Lib.hid hv1
 clear hv1 hbD
 refine wp_region_held_drew (S := fun w' => MT 38 w' w.heap.size (pkC p a)) (by kernel_rfl) hbd (fun hHeld => ?_)
 rw [← HWD.out]
 clear hHeld
 have hHeld := hSD
 clear hSD hbd HWD
 refine tkP (i := 0) (h := ?_)
 refine tkP (i := 1) (h := ?_)
 refine rdA 2 (h := fun K hK => ?_)
 go_simp
 go_at_call 25
 refine (HU.out v1).mono ?_
 rintro e v2 ⟨rfl, hb⟩
 have HBv2 := Lib.hid (stepB HBv1.out hb)
 have HQv2 := Lib.hid (MT.step HQv1.out hb)
 have HPv2 := Lib.hid (PIn.step HPv1.out hb)
 clear HBv1 HQv1 HPv1
 clear hHeld hb
 go_wp2_with fail
 refine hK.out _ _ HQv2.out (fun hHeld => ?_)
 clear hK K
 try simp only [Act.put, List.setIfInBounds_toArray, List.set]
 refine rdA 3 (h := fun K hK => ?_)
 go_simp
 go_at_call 9
 refine (HS.out v2 HPv2.out).mono ?_
 rintro e v3 ⟨rfl, hb⟩
 have HBv3 := Lib.hid (stepB HBv2.out hb)
 have HQv3 := Lib.hid (MT.step HQv2.out hb)
 have HPv3 := Lib.hid (PIn.step HPv2.out hb)
 clear HBv2 HQv2 HPv2
 clear hHeld hb
 go_wp2_with fail
 refine hK.out _ _ HQv3.out (fun hHeld => ?_)
 clear hK K
 try simp only [Act.put, List.setIfInBounds_toArray, List.set]
 refine tkS (i := 4) (v := .bool false) (h := ?_)
 refine wpAnyH_done (by kernel_rfl) ?_ _
 have d0 : v3.cell? ⟨w.heap.size, 0, none⟩ = some (.int .i64 11) := (HQv3.out.cell 0).trans (by rw [← hk.out]; rfl)
 have d1 : v3.cell? ⟨w.heap.size, 1, none⟩ = some (.int .i64 p.id) := HQv3.out.cell 1
 have e33 : v3.cell? ⟨w.heap.size, 33, none⟩ = some (.slice a.c p.codes.length a.cc) := HQv3.out.cell 33
 have e31 : v3.cell? ⟨w.heap.size, 31, none⟩ = some (.slice a.s 0 a.sc) := (HQv3.out.cell 31).trans (by show some (Value.slice _ p.subs.length _) = _; rw [ho1]; rfl)
 have e32 : v3.cell? ⟨w.heap.size, 32, none⟩ = some (.slice a.f 0 a.fc) := (HQv3.out.cell 32).trans (by show some (Value.slice _ p.filters.length _) = _; rw [ho2]; rfl)
 clear ho1 ho2
 generalize listR p.id p.codes codR = lr at HL HV2
 generalize elemR p = er at HE HM
 generalize firstE codR p.codes = fe at HL HM
 generalize idR p.id = j at HC HL
 generalize lenR p.codes.length = ln at HN HL
 generalize p.codes.length = n at *
 by_cases hj : j = 0
 · by_cases hn : ln = 0
   · have HV3 : Hid (r = er) := Lib.hid (by rw [HV2.out, HL.out, hj, hn, HM.out]; simp)
     subst hj hn
     clear HV2 HL HM
     go_wp2_with fail
     refine (HC.out v3).mono ?_
     rintro e w' ⟨rfl, rfl⟩
     go_wp2_with fail
     refine (HN.out v3).mono ?_
     rintro e w' ⟨rfl, rfl⟩
     go_wp2_with (refine wpList_load_all (by rfl) 38 (.tmp 1) rfl w.heap.size rfl 38 _ (0, 0) _ HQv3.out Tryz.underlying38 rfl info33 ?_)
     refine (HE.out v3 HPv3.out).mono ?_
     rintro e w9 ⟨rfl, hb⟩
     have HB9 := Lib.hid (stepB HBv3.out hb)
     clear hb
     go_wp2_with fail
     go_ret
     exact ⟨reti (natc HV3.out.symm), HB9.out⟩
   · have HV3 : Hid (r = ln) := Lib.hid (by rw [HV2.out, HL.out, hj]; simp [hn])
     have qn : ((ln : Int) != 0) = true := by simp [hn]
     subst hj
     clear HV2 HL HM hn
     go_wp2_with fail
     refine (HC.out v3).mono ?_
     rintro e w' ⟨rfl, rfl⟩
     go_wp2_with fail
     refine (HN.out v3).mono ?_
     rintro e w' ⟨rfl, rfl⟩
     go_wp2_with fail
     go_ret
     exact ⟨reti (natc HV3.out.symm), HBv3.out⟩
 · have HV3 : Hid (r = j) := Lib.hid (by rw [HV2.out, HL.out]; simp [hj])
   have qj : ((j : Int) != 0) = true := by simp [hj]
   clear HV2 HL HM hj
   go_wp2_with fail
   refine (HC.out v3).mono ?_
   rintro e w' ⟨rfl, rfl⟩
   go_wp2_with fail
   go_ret
   exact ⟨reti (natc HV3.out.symm), HBv3.out⟩
theorem rCheck6_any (p : Pkt) (a : PA) (w : World) (h : PIn w p a) (hs : BigZ p) :
 Calls Tryz.prog 13 #[pkV p a] w fun e w' => e = .returned (.int .i64 (checkP p)) ∧ Below w.heap.size w w' := by
 by_cases hr : p.kind < 1 ∨ 14 < p.kind
 · have HV := Lib.hid (checkP_out hr)
   generalize checkP p = r at HV ⊢
   unfold pkV
   obtain ⟨w1, hw1, hb1, hm1⟩ := boxK w p a
   have c0 : w1.cell? ⟨w.heap.size, 0, none⟩ = some (.int .i64 p.kind) := hm1.cell 0
   have HQw1 := Lib.hid hm1
   have HBw1 := Lib.hid hb1
   have HPw1 := Lib.hid (h.step hb1)
   have HW1 := Lib.hid hw1
   clear h hs hb1 hm1 hw1 HPw1 HQw1
   by_cases h1 : p.kind < 1
   · have q1 : decide (p.kind < 1) = true := decide_eq_true (by omega)
     clear hr h1
     go_enter Tryz.func13, Tryz.ntmps13
     go_upto_region 1 with fail
     rw [← HW1.out]
     go_wp2_with fail
     go_ret
     exact ⟨reti (natc HV.out.symm), HBw1.out⟩
   · have q1 : decide (p.kind < 1) = false := decide_eq_false (by omega)
     have q2 : decide (14 < p.kind) = true := decide_eq_true (by omega)
     clear hr h1
     go_enter Tryz.func13, Tryz.ntmps13
     go_upto_region 1 with fail
     rw [← HW1.out]
     go_wp2_with fail
     go_ret
     exact ⟨reti (natc HV.out.symm), HBw1.out⟩
 · cases hu : sameP p (usedP p) with
   | false =>
     have HV := Lib.hid (checkP_bad hr hu)
     have HU := Lib.hid (fun w => rUsed_any p a w (by omega))
     have HS : Hid (∀ w, PIn w p a → Calls Tryz.prog 9 #[pkV p a, pkV (usedP p) (usedA p a)] w fun e w' => e = .returned (.bool false) ∧ Below w.heap.size w w') := Lib.hid (fun w h => by
      have := rSameP_any p (usedP p) a (usedA p a) w h h.used hs.1.sz hs.1.sz.used
      rw [hu] at this; exact this)
     generalize checkP p = r at HV ⊢
     unfold pkV at HU HS
     unfold pkV
     obtain ⟨w1, hw1, hb1, hm1⟩ := boxK w p a
     have c0 : w1.cell? ⟨w.heap.size, 0, none⟩ = some (.int .i64 p.kind) := hm1.cell 0
     have HQw1 := Lib.hid hm1
     have HBw1 := Lib.hid hb1
     have HPw1 := Lib.hid (h.step hb1)
     have HW1 := Lib.hid hw1
     have q1 : decide (p.kind < 1) = false := decide_eq_false (by omega)
     have q2 : decide (14 < p.kind) = false := decide_eq_false (by omega)
     clear hr hu h hs hb1 hm1 hw1
     go_enter Tryz.func13, Tryz.ntmps13
     go_upto_region 1 with fail
     rw [← HW1.out]
     go_upto_region 3 with fail
     obtain ⟨v1, hv1⟩ : ∃ v1, v1 = World.drew w1 := ⟨_, rfl⟩
     have hbD : Below w1.heap.size w1 v1 := by rw [hv1]; exact (Below.refl _ _).drew
     have HBv1 := Lib.hid (stepB HBw1.out hbD)
     have HQv1 := Lib.hid (MT.step HQw1.out hbD)
     have HPv1 := Lib.hid (PIn.step HPw1.out hbD)
     clear HBw1 HQw1 HPw1
     have hbd : (fun w' => MT 38 w' w.heap.size (pkC p a)) (World.drew w1) := by rw [← hv1]; exact HQv1.out
     have hSD := HQv1.out
     have HWD := Lib.hid hv1
     clear hv1 hbD
     refine wp_region_held_drew (S := fun w' => MT 38 w' w.heap.size (pkC p a)) (by kernel_rfl) hbd (fun hHeld => ?_)
     rw [← HWD.out]
     clear hHeld
     have hHeld := hSD
     clear hSD hbd HWD
     refine tkP (i := 0) (h := ?_)
     refine tkP (i := 1) (h := ?_)
     refine rdA 2 (h := fun K hK => ?_)
     go_simp
     go_at_call 25
     refine (HU.out v1).mono ?_
     rintro e v2 ⟨rfl, hb⟩
     have HBv2 := Lib.hid (stepB HBv1.out hb)
     have HQv2 := Lib.hid (MT.step HQv1.out hb)
     have HPv2 := Lib.hid (PIn.step HPv1.out hb)
     clear HBv1 HQv1 HPv1
     clear hHeld hb
     go_wp2_with fail
     refine hK.out _ _ HQv2.out (fun hHeld => ?_)
     clear hK K
     try simp only [Act.put, List.setIfInBounds_toArray, List.set]
     refine rdA 3 (h := fun K hK => ?_)
     go_simp
     go_at_call 9
     refine (HS.out v2 HPv2.out).mono ?_
     rintro e v3 ⟨rfl, hb⟩
     have HBv3 := Lib.hid (stepB HBv2.out hb)
     have HQv3 := Lib.hid (MT.step HQv2.out hb)
     have HPv3 := Lib.hid (PIn.step HPv2.out hb)
     clear HBv2 HQv2 HPv2
     clear hHeld hb
     go_wp2_with fail
     refine hK.out _ _ HQv3.out (fun hHeld => ?_)
     clear hK K
     try simp only [Act.put, List.setIfInBounds_toArray, List.set]
     refine tkS (i := 4) (v := .bool true) (h := ?_)
     refine wpAnyH_done (by kernel_rfl) ?_ _
     go_wp2_with fail
     go_ret
     exact ⟨reti (natc HV.out.symm), HBv3.out⟩
   | true =>
     have hk : p.kind = 1 ∨ p.kind = 2 ∨ p.kind = 3 ∨ p.kind = 4 ∨ p.kind = 5 ∨ p.kind = 6 ∨ p.kind = 7 ∨ p.kind = 8 ∨ p.kind = 9 ∨ p.kind = 10 ∨ p.kind = 11 ∨ p.kind = 12 ∨ p.kind = 13 ∨ p.kind = 14 := by omega
     rcases hk with hk | hk | hk | hk | hk | hk | hk | hk | hk | hk | hk | hk | hk | hk
     · exact rCheck6_1 p a w h hs hk hu
     · exact rCheck6_2 p a w h hs hk hu
     · exact rCheck6_3 p a w h hs hk hu
     · exact rCheck6_4 p a w h hs hk hu
     · exact rCheck6_5 p a w h hs hk hu
     · exact rCheck6_6 p a w h hs hk hu
     · exact rCheck6_7 p a w h hs hk hu
     · exact rCheck6_8 p a w h hs hk hu
     · exact rCheck6_9 p a w h hs hk hu
     · exact rCheck6_10 p a w h hs hk hu
     · exact rCheck6_11 p a w h hs hk hu
     · exact rCheck6_12 p a w h hs hk hu
     · exact rCheck6_13 p a w h hs hk hu
     · exact rCheck6_14 p a w h hs hk hu

end Go.Proofs.YtdkegoaflabjoaaGreatDoor
