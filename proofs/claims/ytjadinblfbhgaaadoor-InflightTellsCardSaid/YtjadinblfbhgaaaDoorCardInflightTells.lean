/-
  What Left, Messages, Pubrel, Publish and Resend of brokerref14 answer, and packets of brokerlaw14 for lists of the same packets. Conditions: the window, the item, the lists read as data; few elements.
  InflightTells answers true, walked: Messages, Left and Resend of the program and of the specification answer alike for every valid window. Conditions: the window reads as data; the library's bound on short texts holds a number.
  PROVED: InflightTells answers true for every text.
  Conditions: those that the row prints (the tables of package unicode/utf8 read as the program's text lays them; each argument has at most 2^47 bytes). The tie of the tables is given, over a pruned copy of the project.
-/
import Derived.Test.YtjadinblfbhgaaaDoorVs
import Derived.Test.YtjadinblfbhgaaaDoorSamR
import Derived.Test.YtjadinblfbhgaaaDoorVl
import Derived.Test.YtjadinblfbhgaaaDoorVw
import Derived.Test.YtjadinblfbhgaaaDoorCards
import Derived.Test.YtjadinblfbhgaaaDoorTie
import Derived.Test.YtjadinblfbhgaaaDoorOpenWn
import Derived.ProofKit
import Derived.OpenShut
import Derived.Deep.DeepHandedRow
import Derived.Lib.LaidTab
import Derived.Lay
import Derived.LaidOnce
import Derived.SizedLaws
import Derived.Carry
import Derived.SevenTiedAt
namespace Go.Proofs.YtjadinblfbhgaaaDoor
open Go.RowKit
open S2 (BK Put)

set_option maxRecDepth 20000 in
set_option maxHeartbeats 1000000 in
theorem rleft_any (L : Int) (A : Option Addr) (c : Nat) (xs : List FE) (A2 : Option Addr) (c2 : Nat) (X : List Int) (l : Int) (w : World) (h0 : 0 ≤ L) (h1 : L ≤ 32) (h2 : xs.length ≤ 32) :
    Calls Tryd.prog 16 #[wv L A c xs A2 c2 X l] w fun e w' => e = .returned (.int .i64 (leftR L xs.length)) ∧ Below w.heap.size w w' := by
  by_cases h : L ≤ xs.length
  · have q : decide (L ≤ (xs.length : Int)) = true := decide_eq_true h
    have HR : Hid (0 = leftR L xs.length) := Lib.hid (by unfold leftR; rw [if_pos h])
    go_enter Tryd.func16, Tryd.ntmps16
    go_wp2_with fail
    go_ret
    exact ⟨S2.ret_i HR.out, S2.below_new w _⟩
  · have q : decide (L ≤ (xs.length : Int)) = false := decide_eq_false h
    have HR : Hid (L - xs.length = leftR L xs.length) := Lib.hid (by unfold leftR; rw [if_neg h])
    have e : wrap64 (L - xs.length) = L - xs.length := wrap64_id _ (by omega) (by omega)
    go_enter Tryd.func16, Tryd.ntmps16
    go_wp2_with fail
    go_ret
    exact ⟨S2.ret_i (by first | exact HR.out | (rw [e]; exact HR.out)), S2.below_new w _⟩

def mE (x : FE) : ME := ⟨x.f.m, x.a, x.c⟩
abbrev LstP (B : Nat) (w : World) (v : Value) (ks : List ME) : Prop := Lst 39 gM 9 (fun _ => none) (fun _ => []) B w v ks
abbrev LstQ (B : Nat) (w : World) (v : Value) (ks : List (Pkt × PA)) : Prop := Lst 51 gK 34 (fun _ => none) (fun _ => []) B w v ks

set_option maxRecDepth 20000 in
set_option maxHeartbeats 2000000 in
theorem rmessages_any (L : Int) (A : Option Addr) (c : Nat) (xs : List FE) (A2 : Option Addr) (c2 : Nat) (X : List Int) (l : Int) (w : World) (hsl : FI w w.heap.size A xs) (hn : xs.length ≤ 100000) :
    Calls Tryd.prog 13 #[wv L A c xs A2 c2 X l] w fun e w' => ∃ A3 c3, e = .returned (.slice A3 xs.length c3) ∧ MS w' w'.heap.size A3 (xs.map mE) ∧ Below w.heap.size w w' := by
  have HS := Lib.hid (hsl.step (S2.below_new w (.cells (wcs L A c xs A2 c2 X l).toArray 27)))
  have HB := Lib.hid (S2.below_new w (.cells (wcs L A c xs A2 c2 X l).toArray 27))
  have HM : Hid (BK 27 (w.alloc (.cells (wcs L A c xs A2 c2 X l).toArray 27)) w.heap.size (wcs L A c xs A2 c2 X l)) := Lib.hid (BK.new w _ _)
  clear hsl
  go_enter Tryd.func13, Tryd.ntmps13
  go_upto_region 1 with fail
  refine name_world (C := fun w1 => Code.wp _ _ _ _ w1) (w.alloc (.cells (wcs L A c xs A2 c2 X l).toArray 27)) ?_
  generalize w.alloc (.cells (wcs L A c xs A2 c2 X l).toArray 27) = w0 at HS HB HM
  intro w1 hw1
  subst hw1
  go_wp2_with fail
  go_loopg [3, 4] xs.length (fun g u3 v wr => ∃ (k : Nat) (ks : List ME), k + g = xs.length ∧ v = .int .i64 k ∧ ks = (xs.take k).map mE ∧ LstP w1.heap.size wr u3 ks ∧ Below w1.heap.size w1 wr ∧ w1.heap.size ≤ wr.heap.size)
  case atStart => exact ⟨0, [], by omega, rfl, by simp, Lst.nil, Below.refl _ _, Nat.le_refl _⟩
  case round =>
    obtain ⟨k, ks, hkg, rfl, hks, hlst, hb0, hsz⟩ := hrel
    have HKS := Lib.hid hks
    have HL := Lib.hid hlst
    have HB0 := Lib.hid hb0
    have HK := Lib.hid hkg
    have HSZ := Lib.hid hsz
    have hkl : ks.length = k := by
      have := congrArg List.length hks
      simp only [List.length_map, List.length_take] at this
      omega
    have HKL := Lib.hid hkl
    have d1 := (HM.out.step HB0.out).cell 1 rfl
    clear hks hlst hb0 hsz hkl
    cases gk with
    | zero =>
      obtain rfl : k = xs.length := by omega
      obtain ⟨A3, c3, rfl, hc3, hn3, hgl3, hpl3⟩ := HL.out.ret gM_len
      have HGL := Lib.hid hgl3
      clear hkg hc3 hn3 hgl3 hpl3
      go_wp2
      go_ret
      have hk2 : ks = xs.map mE := by rw [HKS.out, List.take_of_length_le (Nat.le_refl _)]
      subst hk2
      refine ⟨A3, c3, by rw [List.length_map]; rfl, ⟨HGL.out, fun z hz => ?_⟩, stepB HB.out HB0.out⟩
      obtain ⟨x, hx, rfl⟩ := List.mem_map.1 hz
      exact (HS.out.2 x hx).step HB0.out
    | succ g =>
      have hlt : k < xs.length := by omega
      have e3 : decide ((k : Int) < (xs.length : Int)) = true := decide_eq_true (by omega)
      have e3' : decide (k < xs.length) = true := decide_eq_true hlt
      obtain ⟨x, hx⟩ : ∃ x, xs[k]? = some x := ⟨_, List.getElem?_eq_getElem hlt⟩
      obtain ⟨b, o, hA, hbB, hc, hpl⟩ := (HS.out.step HB0.out).at_ hx
      have HLD : Hid ((loadVar 39 ⟨b, o + k * 11 + 2, none⟩).run Tryd.prog wr = .ok (.agg #[.string x.f.m.topic, .string x.f.m.payload, .int .i64 x.f.m.level, .bool x.f.m.retain, .int .i64 x.f.m.prio, .int .i64 x.f.m.exps, .string x.f.m.frm, .int .i64 x.f.m.seq, .slice x.a x.f.m.props.length x.c]) wr) := Lib.hid (load_item_msg hc)
      have HX := Lib.hid hx
      subst hA
      have j1 : (0 : Int) ≤ (k : Int) := by omega
      have j2 : (k : Int) < (xs.length : Int) := by omega
      have hlk : k ≤ 100000 := by omega
      clear hx hc hpl hbB hkg
      go_wp2_with first
        | (refine wpList_load_v (by rfl) 39 _ rfl ⟨b, o + k * 11 + 2, none⟩ (by simp [Act.eval, Act.put]) _ HLD.out ?_)
        | (at_builtin; refine wpList_lst gM_len gM_one (by decide) wr rfl _ _ 34 rfl (.agg (msgC Msg.zero none 0).toArray) 112 Tryd.underlying34 msgInfo rfl (mE x) rfl HL.out (by rfl) (GL.nil _ _ _) (fun b o e => by cases e) (fun b o e => by cases e) w1 HB0.out HSZ.out (by rw [HKL.out]; omega) (by decide) ?_; intro v3 w3 hl3 hb3 hs3)
      have HL3 := Lib.hid hl3
      have HB3 := Lib.hid hb3
      have HS3 := Lib.hid hs3
      clear hl3 hb3 hs3
      go_roundg g
      case measure => omega
      case rel => exact ⟨k + 1, ks ++ [mE x], by have := HK.out; omega, by go_num, by rw [HKS.out, List.take_add_one, HX.out]; simp, HL3.out, HB3.out, HS3.out⟩

set_option maxRecDepth 20000 in
set_option maxHeartbeats 4000000 in
theorem rpubrel_any (n : Int) (w : World) : Calls Tryd.prog 35 #[.int .i64 n] w fun e w' => e = .returned (pkV (relP n) PA.zero) ∧ Below w.heap.size w w' := by
  go_enter Tryd.func35, Tryd.ntmps35
  go_wp2_with first
    | (refine S2.wpList_store_all (by rfl) 51 (.tmp 2) (.tmp 4) rfl rfl w.heap.size rfl (pkC (relP n) PA.zero) rfl 51 zeroPk (BK.new w _ _) pktSize rfl (pkOnes _ _) ?_; intro w1 hM hP; have M1 := Lib.hid hM; have B1 := Lib.hid (hP.below (S2.below_new w _) (Nat.le_refl _)); clear hM hP)
  exact bodyPost_ret (v := pkV (relP n) PA.zero) (S2.res_cell rfl _ _ w.heap.size 51 (pkC (relP n) PA.zero) _ rfl M1.out Tryd.underlying51 rfl pktSize) rfl ⟨rfl, B1.out⟩

set_option maxRecDepth 20000 in
set_option maxHeartbeats 4000000 in
theorem rpublish_any (x : FE) (d : Bool) (w : World) : Calls Tryd.prog 36 #[fV x, .bool d] w fun e w' => e = .returned (pkV (pubP x.f d) (pubA x.a x.c)) ∧ Below w.heap.size w w' := by
  unfold fV
  go_enter Tryd.func36, Tryd.ntmps36
  go_upto_region 1 with fail
  refine name_world (C := fun w1 => Code.wp _ _ _ _ w1) ((w.alloc (.cells (gF x).toArray 64)).alloc (.cells zeroPk.toArray 51)) ?_
  intro w1 hw1
  obtain ⟨t1, t2, hs0, hB0⟩ := S2.two_laid (v1 := gF x) (v2 := zeroPk) hw1
  have M_w1 := Lib.hid t1
  have K_w1 := Lib.hid t2
  have B_w1 := Lib.hid hB0
  have d0 := t1.cell 0 rfl
  have HLD : Hid ((loadVar 39 ⟨w.heap.size, 2, none⟩).run Tryd.prog w1 = .ok (.agg #[.string x.f.m.topic, .string x.f.m.payload, .int .i64 x.f.m.level, .bool x.f.m.retain, .int .i64 x.f.m.prio, .int .i64 x.f.m.exps, .string x.f.m.frm, .int .i64 x.f.m.seq, .slice x.a x.f.m.props.length x.c]) w1) := Lib.hid (bk_msg t1)
  clear hw1 t1 t2 hs0 hB0
  go_wp2_with first
    | (refine wpList_load_v (by rfl) 39 _ rfl ⟨w.heap.size, 2, none⟩ rfl _ HLD.out ?_)
    | (refine S2.wpList_store_all (by rfl) 51 (.tmp 4) (.tmp 10) rfl rfl (w.heap.size + 1) rfl (pkC (pubP x.f d) (pubA x.a x.c)) rfl 51 zeroPk K_w1.out pktSize rfl (pkOnes _ _) ?_; intro w2 hM hP; have M2 := Lib.hid hM; have B2 := Lib.hid (hP.below B_w1.out (by omega)); clear hM hP)
  exact bodyPost_ret (v := pkV (pubP x.f d) (pubA x.a x.c)) (S2.res_cell rfl _ _ (w.heap.size + 1) 51 (pkC (pubP x.f d) (pubA x.a x.c)) _ rfl M2.out Tryd.underlying51 rfl pktSize) rfl ⟨rfl, B2.out⟩

def agA (x : FE) : PA := if x.f.st = 2 then PA.zero else pubA x.a x.c
def kE (x : FE) : Pkt × PA := (againP x.f, agA x)
theorem kE_plain (x : FE) (w : World) (B : Nat) (h : PL w B x.a x.f.m.props) : KP w B (kE x) := by
  unfold kE agA againP
  by_cases hs : x.f.st = 2
  · rw [if_pos hs, if_pos hs]; exact KP.rel _ _ _ _
  · rw [if_neg hs, if_neg hs]; exact KP.pub h
theorem kE_rel {x : FE} (h : x.f.st = 2) : kE x = (relP x.f.id, PA.zero) := by unfold kE agA againP; rw [if_pos h, if_pos h]
theorem kE_pub {x : FE} (h : ¬ x.f.st = 2) : kE x = (pubP x.f true, pubA x.a x.c) := by unfold kE agA againP; rw [if_neg h, if_neg h]

set_option maxRecDepth 20000 in
set_option maxHeartbeats 2000000 in
theorem rresend_any (L : Int) (A : Option Addr) (c : Nat) (xs : List FE) (A2 : Option Addr) (c2 : Nat) (X : List Int) (l : Int) (w : World) (hsl : FI w w.heap.size A xs) (hn : xs.length ≤ 100000) :
    Calls Tryd.prog 19 #[wv L A c xs A2 c2 X l] w fun e w' => ∃ A3 c3, e = .returned (.slice A3 xs.length c3) ∧ KS w' w'.heap.size A3 (xs.map kE) ∧ Below w.heap.size w w' := by
  have HS := Lib.hid (hsl.step (S2.below_new w (.cells (wcs L A c xs A2 c2 X l).toArray 27)))
  have HB := Lib.hid (S2.below_new w (.cells (wcs L A c xs A2 c2 X l).toArray 27))
  have HM : Hid (BK 27 (w.alloc (.cells (wcs L A c xs A2 c2 X l).toArray 27)) w.heap.size (wcs L A c xs A2 c2 X l)) := Lib.hid (BK.new w _ _)
  have HPR := Lib.hid (fun n w1 => rpubrel_any n w1)
  have HPB := Lib.hid (fun x w1 => rpublish_any x true w1)
  clear hsl
  go_enter Tryd.func19, Tryd.ntmps19
  go_upto_region 1 with fail
  refine name_world (C := fun w1 => Code.wp _ _ _ _ w1) (w.alloc (.cells (wcs L A c xs A2 c2 X l).toArray 27)) ?_
  generalize w.alloc (.cells (wcs L A c xs A2 c2 X l).toArray 27) = w0 at HS HB HM
  intro w1 hw1
  subst hw1
  go_wp2_with fail
  go_loopg [3, 4] xs.length (fun g u3 v wr => ∃ (k : Nat) (ks : List (Pkt × PA)), k + g = xs.length ∧ v = .int .i64 k ∧ ks = (xs.take k).map kE ∧ LstQ w1.heap.size wr u3 ks ∧ Below w1.heap.size w1 wr ∧ w1.heap.size ≤ wr.heap.size)
  case atStart => exact ⟨0, [], by omega, rfl, by simp, Lst.nil, Below.refl _ _, Nat.le_refl _⟩
  case round =>
    obtain ⟨k, ks, hkg, rfl, hks, hlst, hb0, hsz⟩ := hrel
    have HKS := Lib.hid hks
    have HL := Lib.hid hlst
    have HB0 := Lib.hid hb0
    have HK := Lib.hid hkg
    have HSZ := Lib.hid hsz
    have hkl : ks.length = k := by
      have := congrArg List.length hks
      simp only [List.length_map, List.length_take] at this
      omega
    have HKL := Lib.hid hkl
    have d1 := (HM.out.step HB0.out).cell 1 rfl
    clear hks hlst hb0 hsz hkl
    cases gk with
    | zero =>
      obtain rfl : k = xs.length := by omega
      obtain ⟨A3, c3, rfl, hc3, hn3, hgl3, hpl3⟩ := HL.out.ret gK_len
      have HGL := Lib.hid hgl3
      clear hkg hc3 hn3 hgl3 hpl3
      go_wp2
      go_ret
      have hk2 : ks = xs.map kE := by rw [HKS.out, List.take_of_length_le (Nat.le_refl _)]
      subst hk2
      refine ⟨A3, c3, by rw [List.length_map]; rfl, ⟨HGL.out, fun z hz => ?_⟩, stepB HB.out HB0.out⟩
      obtain ⟨x, hx, rfl⟩ := List.mem_map.1 hz
      exact kE_plain x _ _ ((HS.out.2 x hx).step HB0.out)
    | succ g =>
      have hlt : k < xs.length := by omega
      have e3 : decide ((k : Int) < (xs.length : Int)) = true := decide_eq_true (by omega)
      have e3' : decide (k < xs.length) = true := decide_eq_true hlt
      obtain ⟨x, hx⟩ : ∃ x, xs[k]? = some x := ⟨_, List.getElem?_eq_getElem hlt⟩
      obtain ⟨b, o, hA, hbB, hc, hpl⟩ := (HS.out.step HB0.out).at_ hx
      have HLD := Lib.hid (load_item hc)
      have k0 := hc 0 _ rfl
      rw [Nat.add_zero] at k0
      have k1 := hc 1 _ rfl
      have HX := Lib.hid hx
      subst hA
      have j1 : (0 : Int) ≤ (k : Int) := by omega
      have j2 : (k : Int) < (xs.length : Int) := by omega
      have hlk : k ≤ 100000 := by omega
      clear hx hc hpl hbB hkg
      by_cases hs : x.f.st = 2
      · have q5 : (x.f.st == 2) = true := by simp [hs]
        have HE := Lib.hid (kE_rel hs)
        clear hs
        go_wp2_with fail
        refine (HPR.out x.f.id wr).mono ?_
        rintro e w2 ⟨rfl, hb2⟩
        have HL2 := Lib.hid (HL.out.step hb2)
        have HB2 := Lib.hid (stepB HB0.out hb2)
        have HZ2 := Lib.hid hb2.size
        clear hb2 HLD HL d1 k0 k1
        simp only [pkV, pkC]
        go_wp2_with first
          | (at_builtin; refine wpList_lst gK_len gK_one (by decide) w2 rfl _ _ 42 rfl (.agg zeroPk.toArray) (Tryd.prog.bytesOf 51) Tryd.underlying42 pktInfo rfl ((relP x.f.id, PA.zero) : Pkt × PA) rfl HL2.out (by rfl) (GL.nil _ _ _) (fun b o e => by cases e) (fun b o e => by cases e) w1 HB2.out (by have := HSZ.out; have := HZ2.out; omega) (Nat.le_trans (Nat.mul_le_mul (show ks.length + 1 ≤ 100001 by rw [HKL.out]; omega) pktBytes.2) (by decide)) pktBytes.1 ?_; intro v3 w3 hl3 hb3 hs3)
        have HL3 := Lib.hid hl3
        have HB3 := Lib.hid hb3
        have HS3 := Lib.hid hs3
        clear hl3 hb3 hs3
        go_roundg g
        case measure => omega
        case rel => exact ⟨k + 1, ks ++ [(relP x.f.id, PA.zero)], by have := HK.out; omega, by go_num, by rw [HKS.out, List.take_add_one, HX.out, ← HE.out]; simp, HL3.out, HB3.out, HS3.out⟩
      · have q5 : (x.f.st == 2) = false := by simp [hs]
        have HE := Lib.hid (kE_pub hs)
        clear hs
        go_wp2_with first
          | (refine wpList_load_v (by rfl) 64 _ rfl ⟨b, o + k * 11, none⟩ (by simp [Act.eval, Act.put]) _ HLD.out ?_)
        refine (HPB.out x wr).mono ?_
        rintro e w2 ⟨rfl, hb2⟩
        have HL2 := Lib.hid (HL.out.step hb2)
        have HB2 := Lib.hid (stepB HB0.out hb2)
        have HZ2 := Lib.hid hb2.size
        clear hb2 HLD HL d1 k0 k1
        simp only [pkV, pkC]
        go_wp2_with first
          | (at_builtin; refine wpList_lst gK_len gK_one (by decide) w2 rfl _ _ 42 rfl (.agg zeroPk.toArray) (Tryd.prog.bytesOf 51) Tryd.underlying42 pktInfo rfl ((pubP x.f true, pubA x.a x.c) : Pkt × PA) rfl HL2.out (by rfl) (GL.nil _ _ _) (fun b o e => by cases e) (fun b o e => by cases e) w1 HB2.out (by have := HSZ.out; have := HZ2.out; omega) (Nat.le_trans (Nat.mul_le_mul (show ks.length + 1 ≤ 100001 by rw [HKL.out]; omega) pktBytes.2) (by decide)) pktBytes.1 ?_; intro v3 w3 hl3 hb3 hs3)
        have HL3 := Lib.hid hl3
        have HB3 := Lib.hid hb3
        have HS3 := Lib.hid hs3
        clear hl3 hb3 hs3
        go_roundg g
        case measure => omega
        case rel => exact ⟨k + 1, ks ++ [(pubP x.f true, pubA x.a x.c)], by have := HK.out; omega, by go_num, by rw [HKS.out, List.take_add_one, HX.out, ← HE.out]; simp, HL3.out, HB3.out, HS3.out⟩

theorem KS.at_ {w : World} {B : Nat} {A : Option Addr} {xs : List (Pkt × PA)} (h : KS w B A xs) {j : Nat} {x : Pkt × PA} (hx : xs[j]? = some x) :
    ∃ b o, A = some ⟨b, o, none⟩ ∧ b < B ∧ (∀ i v, (gK x)[i]? = some v → w.cell? ⟨b, o + j * 34 + i, none⟩ = some v) ∧ KP w B x := by
  obtain ⟨b, o, e, hb, hc⟩ := h.1 (Nat.lt_of_le_of_lt (Nat.zero_le _) (List.getElem?_eq_some_iff.1 hx).1)
  exact ⟨b, o, e, hb, fun i v hv => hc j x i v hx hv, h.2 x (List.mem_of_getElem? hx)⟩
theorem load_pk {w : World} {b o : Nat} {x : Pkt × PA} (hc : ∀ i v, (gK x)[i]? = some v → w.cell? ⟨b, o + i, none⟩ = some v) : (loadVar 51 ⟨b, o, none⟩).run Tryd.prog w = .ok (pkV x.1 x.2) w :=
  run_load_cells w b o (gK x) 51 _ hc Tryd.underlying51 rfl pktSize
theorem cells_stepG {L : List Value} {w w' : World} {b k : Nat} (h : ∀ j v, L[j]? = some v → w.cell? ⟨b, k + j, none⟩ = some v) (hb : Below w.heap.size w w') : ∀ j v, L[j]? = some v → w'.cell? ⟨b, k + j, none⟩ = some v := fun j v hv => by
  have h1 := h j v hv
  have hl : b < w.heap.size := World.block_lt_of_cell? w ⟨b, k + j, none⟩ h1
  rw [hb.cell hl]; exact h1
theorem sameP_refl (p : Pkt) : sameP p p = true := by simp [sameP]
theorem sameM_refl (p : Msg) : sameM p p = true := by simp [sameM]
theorem KP.sz {w : World} {B : Nat} {x : Pkt × PA} (h : KP w B x) (hn : x.1.msg.props.length ≤ 100000) : PSz x.1 := ⟨by omega, by rw [h.2.1]; simp, by rw [h.2.2.1]; simp, by rw [h.2.2.2.1]; simp, by rw [h.2.2.2.2]; simp⟩

set_option maxRecDepth 20000 in
set_option maxHeartbeats 4000000 in
theorem packets_any (A : Option Addr) (c : Nat) (ks : List (Pkt × PA)) (A' : Option Addr) (c' : Nat) (ls : List (Pkt × PA)) (n : Nat) (w : World) (h1 : KS w w.heap.size A ks) (h2 : KS w w.heap.size A' ls) (he : ks.map Prod.fst = ls.map Prod.fst) (hk : ks.length = n) (hn : n ≤ 100000) (hp : ∀ z ∈ ks, z.1.msg.props.length ≤ 100000) :
    Calls Tryd.prog 17 #[.slice A n c, .slice A' n c'] w fun e w' => e = .returned (.bool true) ∧ Below w.heap.size w w' := by
  have hl : ls.length = n := by
    have := congrArg List.length he
    simp only [List.length_map] at this
    omega
  have q0 : ((n : Int) != (n : Int)) = false := by simp
  have HS1 := Lib.hid h1
  have HS2 := Lib.hid h2
  have HE := Lib.hid he
  have HP := Lib.hid hp
  have HKN := Lib.hid hk
  have HLN := Lib.hid hl
  clear h1 h2 he hp hk hl
  go_enter Tryd.func17, Tryd.ntmps17
  go_wp2_with fail
  go_loopg [5] n (fun g v wr => ∃ k : Nat, k + g = n ∧ v = .int .i64 k ∧ Below w.heap.size w wr)
  case atStart => exact ⟨0, by omega, rfl, Below.refl _ _⟩
  case round =>
    obtain ⟨k, hkg, rfl, hb0⟩ := hrel
    have HB := Lib.hid hb0
    have HK := Lib.hid hkg
    clear hb0
    cases gk with
    | zero =>
      obtain rfl : k = n := by omega
      clear hkg
      go_wp2
      go_ret
      exact ⟨rfl, HB.out⟩
    | succ g =>
      have hlt : k < n := by omega
      have e3 : decide ((k : Int) < (n : Int)) = true := decide_eq_true (by omega)
      have e3' : decide (k < n) = true := decide_eq_true hlt
      obtain ⟨z, hz⟩ : ∃ z, ks[k]? = some z := ⟨_, List.getElem?_eq_getElem (by have := HKN.out; omega)⟩
      obtain ⟨y, hy⟩ : ∃ y, ls[k]? = some y := ⟨_, List.getElem?_eq_getElem (by have := HLN.out; omega)⟩
      have hzy : y.1 = z.1 := by
        have h1 : (ks.map Prod.fst)[k]? = some z.1 := by rw [List.getElem?_map, hz]; rfl
        have h2 : (ls.map Prod.fst)[k]? = some y.1 := by rw [List.getElem?_map, hy]; rfl
        rw [HE.out, h2] at h1
        exact Option.some.inj h1
      obtain ⟨b, o, hA, hbB, hc, hpl⟩ := (HS1.out.step HB.out).at_ hz
      obtain ⟨b', o', hA', hbB', hc', hpl'⟩ := (HS2.out.step HB.out).at_ hy
      have HSAME : Hid (∀ w1, KP w1 w1.heap.size z → KP w1 w1.heap.size y → Calls Tryd.prog 33 #[pkV z.1 z.2, pkV y.1 y.2] w1 fun e w' => e = .returned (.bool true) ∧ Below w1.heap.size w1 w') := Lib.hid (fun w1 g1 g2 => by
        have hpz := HP.out z (List.mem_of_getElem? hz)
        have := rSameP_any z.1 y.1 z.2 y.2 w1 g1.pin g2.pin (g1.sz hpz) (by rw [hzy]; exact g1.sz hpz)
        rw [hzy, sameP_refl] at this
        rw [hzy]
        exact this)
      have B_wr : Hid (Below w.heap.size w wr) := HB
      have C_wr : Hid (∀ i v, (gK z)[i]? = some v → wr.cell? ⟨b, o + k * 34 + i, none⟩ = some v) := Lib.hid hc
      have D_wr : Hid (∀ i v, (gK y)[i]? = some v → wr.cell? ⟨b', o' + k * 34 + i, none⟩ = some v) := Lib.hid hc'
      have P_wr : Hid (KP wr wr.heap.size z) := Lib.hid hpl
      have Q_wr : Hid (KP wr wr.heap.size y) := Lib.hid hpl'
      subst hA hA'
      have j1 : (0 : Int) ≤ (k : Int) := by omega
      have j2 : (k : Int) < (n : Int) := by omega
      have hlk : k ≤ 100000 := by omega
      clear hz hy hzy hc hc' hpl hpl' hbB hbB' hkg HB
      go_upto_region 6 with fail
      obtain ⟨u1, hu1⟩ : ∃ u1, u1 = World.drew wr := ⟨_, rfl⟩
      have hbD : Below wr.heap.size wr u1 := by rw [hu1]; exact (Below.refl _ _).drew
      have B_u1 : Hid (Below w.heap.size w u1) := Lib.hid (stepB B_wr.out hbD)
      have C_u1 : Hid (∀ i v, (gK z)[i]? = some v → u1.cell? ⟨b, o + k * 34 + i, none⟩ = some v) := Lib.hid (cells_stepG C_wr.out hbD)
      have D_u1 : Hid (∀ i v, (gK y)[i]? = some v → u1.cell? ⟨b', o' + k * 34 + i, none⟩ = some v) := Lib.hid (cells_stepG D_wr.out hbD)
      have P_u1 : Hid (KP u1 u1.heap.size z) := Lib.hid ((KP.below P_wr.out hbD).more hbD.size)
      have Q_u1 : Hid (KP u1 u1.heap.size y) := Lib.hid ((KP.below Q_wr.out hbD).more hbD.size)
      clear B_wr C_wr D_wr P_wr Q_wr
      have hbd : (fun w' => (∀ i v, (gK z)[i]? = some v → w'.cell? ⟨b, o + k * 34 + i, none⟩ = some v) ∧ (∀ i v, (gK y)[i]? = some v → w'.cell? ⟨b', o' + k * 34 + i, none⟩ = some v)) (World.drew wr) := by rw [← hu1]; exact ⟨C_u1.out, D_u1.out⟩
      have hSD : (fun w' => (∀ i v, (gK z)[i]? = some v → w'.cell? ⟨b, o + k * 34 + i, none⟩ = some v) ∧ (∀ i v, (gK y)[i]? = some v → w'.cell? ⟨b', o' + k * 34 + i, none⟩ = some v)) u1 := ⟨C_u1.out, D_u1.out⟩
      have HWD := Lib.hid hu1
      clear hu1 hbD
      refine wp_region_held_drew (S := fun w' => (∀ i v, (gK z)[i]? = some v → w'.cell? ⟨b, o + k * 34 + i, none⟩ = some v) ∧ (∀ i v, (gK y)[i]? = some v → w'.cell? ⟨b', o' + k * 34 + i, none⟩ = some v)) (by kernel_rfl) hbd (fun hHeld => ?_)
      rw [← HWD.out]
      clear hHeld
      have hHeld := hSD
      clear hSD hbd HWD
      refine wpAnyH_take (i := 0) (v := (.slice (some ⟨b, o, none⟩) n c)) (get_ops _ _ _ rfl) (by kernel_rfl) (by kernel_rfl) (by kernel_rfl) (fun _ _ _ h => h) (Or.inl ⟨by rfl, fun wS hSw => by (try dsimp only at hSw); go_simp⟩) hHeld ?_
      try simp only [Act.put, List.setIfInBounds_toArray, List.set_cons_zero, List.set_cons_succ]
      refine wpAnyH_take (i := 1) (v := .int .i64 ((k : Int))) (get_ops _ _ _ rfl) (by kernel_rfl) (by kernel_rfl) (by kernel_rfl) (fun _ _ _ h => h) (Or.inl ⟨by rfl, fun wS hSw => by (try dsimp only at hSw); go_simp⟩) hHeld ?_
      try simp only [Act.put, List.setIfInBounds_toArray, List.set_cons_zero, List.set_cons_succ]
      refine wpAnyH_take (i := 2) (v := (.pointer (some ⟨b, o + k * 34, none⟩))) (get_ops _ _ _ rfl) (by kernel_rfl) (by kernel_rfl) (by kernel_rfl) (fun _ _ _ h => h) (Or.inl ⟨by rfl, fun wS hSw => by (try dsimp only at hSw); go_simp⟩) hHeld ?_
      try simp only [Act.put, List.setIfInBounds_toArray, List.set_cons_zero, List.set_cons_succ]
      refine wpAnyH_take (i := 3) (v := (pkV z.1 z.2)) (get_ops _ _ _ rfl) (by kernel_rfl) (by kernel_rfl) (by kernel_rfl) (fun _ _ _ h => h) (Or.inl ⟨by rfl, fun wS hSw => by (try dsimp only at hSw); exact exec_load 51 _ rfl ⟨b, o + k * 34, none⟩ (by go_simp) _ (load_pk hSw.1)⟩) hHeld ?_
      try simp only [Act.put, List.setIfInBounds_toArray, List.set_cons_zero, List.set_cons_succ]
      refine wpAnyH_take (i := 4) (v := (.slice (some ⟨b', o', none⟩) n c')) (get_ops _ _ _ rfl) (by kernel_rfl) (by kernel_rfl) (by kernel_rfl) (fun _ _ _ h => h) (Or.inl ⟨by rfl, fun wS hSw => by (try dsimp only at hSw); go_simp⟩) hHeld ?_
      try simp only [Act.put, List.setIfInBounds_toArray, List.set_cons_zero, List.set_cons_succ]
      refine wpAnyH_take (i := 5) (v := .int .i64 ((k : Int))) (get_ops _ _ _ rfl) (by kernel_rfl) (by kernel_rfl) (by kernel_rfl) (fun _ _ _ h => h) (Or.inl ⟨by rfl, fun wS hSw => by (try dsimp only at hSw); go_simp⟩) hHeld ?_
      try simp only [Act.put, List.setIfInBounds_toArray, List.set_cons_zero, List.set_cons_succ]
      refine wpAnyH_take (i := 6) (v := (.pointer (some ⟨b', o' + k * 34, none⟩))) (get_ops _ _ _ rfl) (by kernel_rfl) (by kernel_rfl) (by kernel_rfl) (fun _ _ _ h => h) (Or.inl ⟨by rfl, fun wS hSw => by (try dsimp only at hSw); go_simp⟩) hHeld ?_
      try simp only [Act.put, List.setIfInBounds_toArray, List.set_cons_zero, List.set_cons_succ]
      refine wpAnyH_take (i := 7) (v := (pkV y.1 y.2)) (get_ops _ _ _ rfl) (by kernel_rfl) (by kernel_rfl) (by kernel_rfl) (fun _ _ _ h => h) (Or.inl ⟨by rfl, fun wS hSw => by (try dsimp only at hSw); exact exec_load 51 _ rfl ⟨b', o' + k * 34, none⟩ (by go_simp) _ (load_pk hSw.2)⟩) hHeld ?_
      try simp only [Act.put, List.setIfInBounds_toArray, List.set_cons_zero, List.set_cons_succ]
      refine wpAnyH_ready (rs := [8]) (by kernel_rfl) (by simp) ?_
      refine (AllReadyH.cons (get_ops _ _ _ rfl) (fun K hK => ?_) AllReadyH.nil)
      go_simp
      refine (HSAME.out u1 P_u1.out Q_u1.out).mono ?_
      rintro e u2 ⟨rfl, hb⟩
      have B_u2 : Hid (Below w.heap.size w u2) := Lib.hid (stepB B_u1.out hb)
      have C_u2 : Hid (∀ i v, (gK z)[i]? = some v → u2.cell? ⟨b, o + k * 34 + i, none⟩ = some v) := Lib.hid (cells_stepG C_u1.out hb)
      have D_u2 : Hid (∀ i v, (gK y)[i]? = some v → u2.cell? ⟨b', o' + k * 34 + i, none⟩ = some v) := Lib.hid (cells_stepG D_u1.out hb)
      have P_u2 : Hid (KP u2 u2.heap.size z) := Lib.hid ((KP.below P_u1.out hb).more hb.size)
      have Q_u2 : Hid (KP u2 u2.heap.size y) := Lib.hid ((KP.below Q_u1.out hb).more hb.size)
      clear B_u1 C_u1 D_u1 P_u1 Q_u1
      clear hHeld hb
      go_wp2_with fail
      refine hK.out _ _ ⟨C_u2.out, D_u2.out⟩ (fun hHeld => ?_)
      clear hK K
      try simp only [Act.put, List.setIfInBounds_toArray, List.set_cons_zero, List.set_cons_succ]
      refine wpAnyH_take (i := 9) (v := .bool false) (get_ops _ _ _ rfl) (by kernel_rfl) (by kernel_rfl) (by kernel_rfl) (fun _ _ _ h => h) (Or.inl ⟨by rfl, fun wS hSw => by (try dsimp only at hSw); go_simp⟩) hHeld ?_
      try simp only [Act.put, List.setIfInBounds_toArray, List.set_cons_zero, List.set_cons_succ]
      refine wpAnyH_done (by kernel_rfl) ?_ _
      go_wp2
      go_roundg g
      case measure => omega
      case rel => exact ⟨k + 1, by have := HK.out; omega, by go_num, B_u2.out⟩
end Go.Proofs.YtjadinblfbhgaaaDoor
namespace Go.Proofs.YtjadinblfbhgaaaDoor
open Go.RowKit
open S2 (BK Put)

theorem items_all {F : List Fl} {X : List Int} : ∀ (r : List Fl) (i : Nat), itemsR F X i r = 0 → ∀ x ∈ r, checkR x.m = 0
  | [], _, _ => fun x hx => by cases hx
  | y :: r, i, h => fun x hx => by
    have he : itemsR F X i (y :: r) = if itemR F X i y ≠ 0 then itemR F X i y else itemsR F X (i + 1) r := rfl
    rw [he] at h
    by_cases h0 : itemR F X i y = 0
    · rw [if_neg (by simpa using h0)] at h
      rcases List.mem_cons.1 hx with rfl | hx
      · have hc := item_cases h0
        by_cases hin : x.id ∈ X
        · have h2 := hc.2 hin
          by_cases hp : posF F x.id < i
          · have := h2.1 hp; omega
          · by_cases hk : checkR x.m = 0
            · exact hk
            · have := (h2.2 hp).1 hk; omega
        · have := hc.1 hin; omega
      · exact items_all r (i + 1) h x hx
    · rw [if_pos h0] at h
      exact absurd h h0
/-- what a valid window is -/
theorem win_ok {L : Int} {F : List Fl} {X : List Int} {l : Int} (h : winR (L, F, X, l) = 0) : (0 ≤ L ∧ L ≤ 32) ∧ F.length ≤ 32 ∧ S2.ckI X l = 0 ∧ (∀ x ∈ F, checkR x.m = 0) ∧ X.length ≤ F.length := by
  have hc := win_cases h
  by_cases h1 : L < 0 ∨ 32 < L
  · have := hc.1 h1; omega
  have h2 := hc.2 h1
  by_cases h3 : S2.ckI X l = 0
  rotate_left
  · have := h2.1 h3; omega
  have h4 := h2.2 h3
  by_cases h5 : 32 < F.length
  · have := h4.1 h5; omega
  have h6 := h4.2 h5
  by_cases h7 : itemsR F X 0 F = 0
  rotate_left
  · have := h6.1 h7; omega
  have h8 := h6.2 h7
  by_cases h9 : F.length < X.length
  · have := h8.1 h9; omega
  exact ⟨by omega, by omega, h3, items_all F 0 h7, by omega⟩

set_option maxRecDepth 50000 in
set_option maxHeartbeats 16000000 in
theorem inflightTells_walk (L : Int) (A : Option Addr) (c : Nat) (xs : List FE) (A2 : Option Addr) (c2 : Nat) (X : List Int) (l : Int) (w : World) (hok : S1.Okw w) (hw : WOk w A c xs A2 c2 X) (hXl : X.length ≤ 9223372036854775807) (hnl : xs.length ≤ 9223372036854775807)
    (ht : ∀ x ∈ xs, x.f.m.topic.size ≤ 9223372036854775807 ∧ x.f.m.frm.size ≤ 9223372036854775807 ∧ ∀ y ∈ x.f.m.props, y.1.size ≤ 9223372036854775807) :
    Calls Tryd.prog 4 #[wv L A c xs A2 c2 X l] w fun e w' => e = .returned (.bool true) ∧ Below w.heap.size w w' := by
  have HC2 : Hid (∀ w1, WOk w1 A c xs A2 c2 X → Calls Tryd.prog 8 #[wv L A c xs A2 c2 X l] w1 fun e w' => e = .returned (.int .i64 (winR (L, xs.map FE.f, X, l))) ∧ Below w1.heap.size w1 w') := Lib.hid (fun w1 h => rwcheck_any L A c xs A2 c2 X l w1 h hXl hnl ht)
  have HA := Lib.hid (fun w1 ho => awake14_any w1 ho)
  have HW := Lib.hid hw
  have HO := Lib.hid hok
  by_cases hz : winR (L, xs.map FE.f, X, l) = 0
  rotate_left
  · have q0 : (winR (L, xs.map FE.f, X, l) != 0) = true := by simp [hz]
    generalize winR (L, xs.map FE.f, X, l) = z at HC2 q0
    clear hw hok ht hz
    go_enter Tryd.func4, Tryd.ntmps4
    go_upto_region 1 with fail
    refine name_world (C := fun w1 => Code.wp _ _ _ _ w1) (w.alloc (.cells (wcs L A c xs A2 c2 X l).toArray 27)) ?_
    intro w1 hw1
    have hb1 : Below w.heap.size w w1 := by rw [hw1]; exact S2.below_new w _
    have T_w1 : Hid (BK 27 w1 w.heap.size (wcs L A c xs A2 c2 X l)) := Lib.hid (by rw [hw1]; exact BK.new w _ _)
    have B_w1 : Hid (Below w.heap.size w w1) := Lib.hid hb1
    have O_w1 : Hid (WOk w1 A c xs A2 c2 X) := Lib.hid (HW.out.step hb1)
    clear hb1 hw1
    go_wp2_with first
      | (refine wpList_load_v (by rfl) 27 _ rfl ⟨w.heap.size, 0, none⟩ rfl (wv L A c xs A2 c2 X l) (S2.run_load_all T_w1.out Tryd.underlying27 rfl winSize) ?_)
    refine (HC2.out w1 O_w1.out).mono ?_
    rintro e w2 ⟨rfl, hb⟩
    have T_w2 := Lib.hid (T_w1.out.step hb)
    have B_w2 := Lib.hid (stepB B_w1.out hb)
    have O_w2 := Lib.hid (O_w1.out.step hb)
    clear hb T_w1 B_w1 O_w1
    go_wp2_with fail
    refine (HA.out w2 (HO.out.step B_w2.out)).mono ?_
    rintro e w3 ⟨rfl, hb⟩
    have B_w3 := Lib.hid (stepB B_w2.out hb)
    clear hb
    go_wp2
    go_ret
    exact ⟨rfl, B_w3.out⟩
  obtain ⟨hL, hn32, hck, hchk, _⟩ := win_ok hz
  rw [List.length_map] at hn32
  have hpr : ∀ x ∈ xs, x.f.m.props.length ≤ 100000 := fun x hx => by
    have := checkR_props (hchk x.f (List.mem_map_of_mem hx))
    omega
  rw [hz] at HC2
  have HM1 : Hid (∀ w1, FI w1 w1.heap.size A xs → Calls Tryd.prog 12 #[wv L A c xs A2 c2 X l] w1 fun e w' => ∃ A3 c3 ks, e = .returned (.slice A3 xs.length c3) ∧ (ks.map ME.m = (xs.map FE.f).map Fl.m ∧ MS w' w'.heap.size A3 ks) ∧ Below w1.heap.size w1 w') := Lib.hid (fun w1 h => (messages_any L A c xs A2 c2 X l w1 h (by omega) hpr).mono (fun e w' hh => by
    obtain ⟨A3, c3, ks, rfl, h1, h2, _, h4⟩ := hh
    have hl : ks.length = xs.length := by have := congrArg List.length h1; simpa using this
    exact ⟨A3, c3, ks, by rw [hl], ⟨h1, h2⟩, h4⟩))
  have HM2 : Hid (∀ w1, FI w1 w1.heap.size A xs → Calls Tryd.prog 13 #[wv L A c xs A2 c2 X l] w1 fun e w' => ∃ A3 c3, e = .returned (.slice A3 xs.length c3) ∧ MS w' w'.heap.size A3 (xs.map mE) ∧ Below w1.heap.size w1 w') := Lib.hid (fun w1 h => rmessages_any L A c xs A2 c2 X l w1 h (by omega))
  have HR1 : Hid (∀ w1, FI w1 w1.heap.size A xs → Calls Tryd.prog 18 #[wv L A c xs A2 c2 X l] w1 fun e w' => ∃ A3 c3 ks, e = .returned (.slice A3 xs.length c3) ∧ (ks.map Prod.fst = (xs.map FE.f).map againP ∧ KS w' w'.heap.size A3 ks) ∧ Below w1.heap.size w1 w') := Lib.hid (fun w1 h => (resend_any L A c xs A2 c2 X l w1 h (by omega) hpr).mono (fun e w' hh => by
    obtain ⟨A3, c3, ks, rfl, h1, h2, _, h4⟩ := hh
    have hl : ks.length = xs.length := by have := congrArg List.length h1; simpa using this
    exact ⟨A3, c3, ks, by rw [hl], ⟨h1, h2⟩, h4⟩))
  have HR2 : Hid (∀ w1, FI w1 w1.heap.size A xs → Calls Tryd.prog 19 #[wv L A c xs A2 c2 X l] w1 fun e w' => ∃ A3 c3, e = .returned (.slice A3 xs.length c3) ∧ KS w' w'.heap.size A3 (xs.map kE) ∧ Below w1.heap.size w1 w') := Lib.hid (fun w1 h => rresend_any L A c xs A2 c2 X l w1 h (by omega))
  have HL1 := Lib.hid (fun w1 => left_any L A c xs A2 c2 X l w1 hL.1 hL.2 hn32)
  have HL2 := Lib.hid (fun w1 => rleft_any L A c xs A2 c2 X l w1 hL.1 hL.2 hn32)
  generalize leftR L xs.length = lf at HL1 HL2
  have HPK : Hid (∀ A3 c3 ks A4 c4 w1, ks.map Prod.fst = (xs.map FE.f).map againP → KS w1 w1.heap.size A3 ks → KS w1 w1.heap.size A4 (xs.map kE) → Calls Tryd.prog 17 #[.slice A3 xs.length c3, .slice A4 xs.length c4] w1 fun e w' => e = .returned (.bool true) ∧ Below w1.heap.size w1 w') := Lib.hid (fun A3 c3 ks A4 c4 w1 he h1 h2 =>
    packets_any A3 c3 ks A4 c4 (xs.map kE) xs.length w1 h1 h2 (by rw [he, List.map_map, List.map_map]; rfl) (by have := congrArg List.length he; simpa using this) (by omega) (fun z hz => by
      have hz1 : z.1 ∈ (xs.map FE.f).map againP := by rw [← he]; exact List.mem_map_of_mem hz
      obtain ⟨f, hf, e⟩ := List.mem_map.1 hz1
      obtain ⟨x, hx, rfl⟩ := List.mem_map.1 hf
      rw [← e]
      unfold againP
      split
      · exact Nat.zero_le _
      · exact hpr x hx))
  have HSM : Hid (∀ (p q : ME) w1, p.m = q.m → p.m.props.length ≤ 100000 → PL w1 w1.heap.size p.a p.m.props → PL w1 w1.heap.size q.a q.m.props → Calls Tryd.prog 14 #[msgV p.m p.a p.c, msgV q.m q.a q.c] w1 fun e w' => e = .returned (.bool true) ∧ Below w1.heap.size w1 w') := Lib.hid (fun p q w1 he hn h1 h2 => by
    have := rSame_any p.m q.m p.a q.a p.c q.c w1 h1 h2 (by omega)
    rw [← he, sameM_refl] at this
    rw [← he]
    exact this)
  have HPR := Lib.hid hpr
  have hlx : xs.length ≤ 100000 := by omega
  have q1 : ((xs.length : Int) != (xs.length : Int)) = false := by simp
  clear hw hok ht hz hL hn32 hck hchk hpr
  go_enter Tryd.func4, Tryd.ntmps4
  go_upto_region 1 with fail
  refine name_world (C := fun w1 => Code.wp _ _ _ _ w1) (w.alloc (.cells (wcs L A c xs A2 c2 X l).toArray 27)) ?_
  intro w1 hw1
  have hb1 : Below w.heap.size w w1 := by rw [hw1]; exact S2.below_new w _
  have T_w1 : Hid (BK 27 w1 w.heap.size (wcs L A c xs A2 c2 X l)) := Lib.hid (by rw [hw1]; exact BK.new w _ _)
  have B_w1 : Hid (Below w.heap.size w w1) := Lib.hid hb1
  have O_w1 : Hid (WOk w1 A c xs A2 c2 X) := Lib.hid (HW.out.step hb1)
  clear hb1 hw1
  go_wp2_with first
    | (refine wpList_load_v (by rfl) 27 _ rfl ⟨w.heap.size, 0, none⟩ rfl (wv L A c xs A2 c2 X l) (S2.run_load_all T_w1.out Tryd.underlying27 rfl winSize) ?_)
  refine (HC2.out w1 O_w1.out).mono ?_
  rintro e w2 ⟨rfl, hb⟩
  have T_w2 := Lib.hid (T_w1.out.step hb)
  have B_w2 := Lib.hid (stepB B_w1.out hb)
  have O_w2 := Lib.hid (O_w1.out.step hb)
  clear hb T_w1 B_w1 O_w1
  clear HC2
  go_upto_region 3 with fail
  obtain ⟨v1, hv1⟩ : ∃ v1, v1 = World.drew w2 := ⟨_, rfl⟩
  have hbD : Below w2.heap.size w2 v1 := by rw [hv1]; exact (Below.refl _ _).drew
  have B_v1 : Hid (Below w.heap.size w v1) := Lib.hid (stepB B_w2.out hbD)
  have T_v1 : Hid (BK 27 v1 w.heap.size (wcs L A c xs A2 c2 X l)) := Lib.hid (BK.step T_w2.out hbD)
  have O_v1 : Hid (WOk v1 A c xs A2 c2 X) := Lib.hid (WOk.step O_w2.out hbD)
  clear B_w2 T_w2 O_w2
  have hbd : (fun w' => BK 27 w' w.heap.size (wcs L A c xs A2 c2 X l)) (World.drew w2) := by rw [← hv1]; exact T_v1.out
  have hSD : (fun w' => BK 27 w' w.heap.size (wcs L A c xs A2 c2 X l)) v1 := T_v1.out
  have HWD := Lib.hid hv1
  clear hv1 hbD
  refine wp_region_held_drew (S := fun w' => BK 27 w' w.heap.size (wcs L A c xs A2 c2 X l)) (by kernel_rfl) hbd (fun hHeld => ?_)
  rw [← HWD.out]
  clear hHeld
  have hHeld := hSD
  clear hSD hbd HWD
  refine wpAnyH_take (i := 0) (v := (wv L A c xs A2 c2 X l)) (get_ops _ _ _ rfl) (by kernel_rfl) (by kernel_rfl) (by kernel_rfl) (fun _ _ _ h => h) (Or.inl ⟨by rfl, fun wS hSw => by (try dsimp only at hSw); exact exec_load 27 _ rfl ⟨w.heap.size, 0, none⟩ (by go_simp) _ (S2.run_load_all hSw Tryd.underlying27 rfl winSize)⟩) hHeld ?_
  try simp only [Act.put, List.setIfInBounds_toArray, List.set_cons_zero, List.set_cons_succ]
  refine wpAnyH_take (i := 2) (v := (wv L A c xs A2 c2 X l)) (get_ops _ _ _ rfl) (by kernel_rfl) (by kernel_rfl) (by kernel_rfl) (fun _ _ _ h => h) (Or.inl ⟨by rfl, fun wS hSw => by (try dsimp only at hSw); exact exec_load 27 _ rfl ⟨w.heap.size, 0, none⟩ (by go_simp) _ (S2.run_load_all hSw Tryd.underlying27 rfl winSize)⟩) hHeld ?_
  try simp only [Act.put, List.setIfInBounds_toArray, List.set_cons_zero, List.set_cons_succ]
  refine wpAnyH_ready (rs := [1]) (by kernel_rfl) (by simp) ?_
  refine (AllReadyH.cons (get_ops _ _ _ rfl) (fun K hK => ?_) AllReadyH.nil)
  go_simp
  refine (HM1.out v1 O_v1.out.1).mono ?_
  rintro e v2 ⟨A3, c3, ks, rfl, ⟨hks, hms⟩, hb⟩
  have B_v2 : Hid (Below w.heap.size w v2) := Lib.hid (stepB B_v1.out hb)
  have T_v2 : Hid (BK 27 v2 w.heap.size (wcs L A c xs A2 c2 X l)) := Lib.hid (BK.step T_v1.out hb)
  have O_v2 : Hid (WOk v2 A c xs A2 c2 X) := Lib.hid (WOk.step O_v1.out hb)
  clear B_v1 T_v1 O_v1
  have HKS := Lib.hid hks
  have M_v2 : Hid (MS v2 v2.heap.size A3 ks) := Lib.hid hms
  clear hks hms
  clear hHeld hb
  go_wp2_with fail
  refine hK.out _ _ T_v2.out (fun hHeld => ?_)
  clear hK K
  try simp only [Act.put, List.setIfInBounds_toArray, List.set_cons_zero, List.set_cons_succ]
  refine wpAnyH_ready (rs := [3]) (by kernel_rfl) (by simp) ?_
  refine (AllReadyH.cons (get_ops _ _ _ rfl) (fun K hK => ?_) AllReadyH.nil)
  go_simp
  refine (HM2.out v2 O_v2.out.1).mono ?_
  rintro e v3 ⟨A4, c4, rfl, hms, hb⟩
  have B_v3 : Hid (Below w.heap.size w v3) := Lib.hid (stepB B_v2.out hb)
  have T_v3 : Hid (BK 27 v3 w.heap.size (wcs L A c xs A2 c2 X l)) := Lib.hid (BK.step T_v2.out hb)
  have O_v3 : Hid (WOk v3 A c xs A2 c2 X) := Lib.hid (WOk.step O_v2.out hb)
  have M_v3 : Hid (MS v3 v3.heap.size A3 ks) := Lib.hid (MS.step M_v2.out hb)
  clear B_v2 T_v2 O_v2 M_v2
  have R_v3 : Hid (MS v3 v3.heap.size A4 (xs.map mE)) := Lib.hid hms
  clear hms
  clear hHeld hb
  go_wp2_with fail
  refine hK.out _ _ T_v3.out (fun hHeld => ?_)
  clear hK K
  try simp only [Act.put, List.setIfInBounds_toArray, List.set_cons_zero, List.set_cons_succ]
  refine wpAnyH_take (i := 4) (v := (.slice A3 xs.length c3)) (get_ops _ _ _ rfl) (by kernel_rfl) (by kernel_rfl) (by kernel_rfl) (fun _ _ _ h => h) (Or.inl ⟨by rfl, fun wS hSw => by (try dsimp only at hSw); go_simp⟩) hHeld ?_
  try simp only [Act.put, List.setIfInBounds_toArray, List.set_cons_zero, List.set_cons_succ]
  refine wpAnyH_take (i := 5) (v := (.slice A4 xs.length c4)) (get_ops _ _ _ rfl) (by kernel_rfl) (by kernel_rfl) (by kernel_rfl) (fun _ _ _ h => h) (Or.inl ⟨by rfl, fun wS hSw => by (try dsimp only at hSw); go_simp⟩) hHeld ?_
  try simp only [Act.put, List.setIfInBounds_toArray, List.set_cons_zero, List.set_cons_succ]
  refine wpAnyH_done (by kernel_rfl) ?_ _
  clear HM1 HM2
  go_wp2_with fail
  go_loopg [5] xs.length (fun g v wr => ∃ k : Nat, k + g = xs.length ∧ v = .int .i64 k ∧ Below v3.heap.size v3 wr)
  case atStart => exact ⟨0, by omega, rfl, Below.refl _ _⟩
  case round =>
    obtain ⟨k, hkg, rfl, hb⟩ := hrel
    have HB0 := Lib.hid hb
    have HK := Lib.hid hkg
    have B_wr : Hid (Below w.heap.size w wr) := Lib.hid (stepB B_v3.out hb)
    have T_wr : Hid (BK 27 wr w.heap.size (wcs L A c xs A2 c2 X l)) := Lib.hid (BK.step T_v3.out hb)
    have O_wr : Hid (WOk wr A c xs A2 c2 X) := Lib.hid (WOk.step O_v3.out hb)
    have M_wr : Hid (MS wr wr.heap.size A3 ks) := Lib.hid (MS.step M_v3.out hb)
    have R_wr : Hid (MS wr wr.heap.size A4 (xs.map mE)) := Lib.hid (MS.step R_v3.out hb)
    clear hb
    cases gk with
    | zero =>
      obtain rfl : k = xs.length := by omega
      clear hkg HSM
      go_upto_region 11 with fail
      obtain ⟨x1, hx1⟩ : ∃ x1, x1 = World.drew wr := ⟨_, rfl⟩
      have hbD : Below wr.heap.size wr x1 := by rw [hx1]; exact (Below.refl _ _).drew
      have B_x1 : Hid (Below w.heap.size w x1) := Lib.hid (stepB B_wr.out hbD)
      have T_x1 : Hid (BK 27 x1 w.heap.size (wcs L A c xs A2 c2 X l)) := Lib.hid (BK.step T_wr.out hbD)
      have O_x1 : Hid (WOk x1 A c xs A2 c2 X) := Lib.hid (WOk.step O_wr.out hbD)
      clear B_wr T_wr O_wr
      have hbd : (fun w' => BK 27 w' w.heap.size (wcs L A c xs A2 c2 X l)) (World.drew wr) := by rw [← hx1]; exact T_x1.out
      have hSD : (fun w' => BK 27 w' w.heap.size (wcs L A c xs A2 c2 X l)) x1 := T_x1.out
      have HWD := Lib.hid hx1
      clear hx1 hbD
      refine wp_region_held_drew (S := fun w' => BK 27 w' w.heap.size (wcs L A c xs A2 c2 X l)) (by kernel_rfl) hbd (fun hHeld => ?_)
      rw [← HWD.out]
      clear hHeld
      have hHeld := hSD
      clear hSD hbd HWD
      refine wpAnyH_ready (rs := [0]) (by kernel_rfl) (by simp) ?_
      refine (AllReadyH.cons (get_ops _ _ _ rfl) (fun K hK => ?_) AllReadyH.nil)
      go_simp
      refine (HA.out x1 (HO.out.step B_x1.out)).mono ?_
      rintro e x2 ⟨rfl, hb⟩
      have B_x2 : Hid (Below w.heap.size w x2) := Lib.hid (stepB B_x1.out hb)
      have T_x2 : Hid (BK 27 x2 w.heap.size (wcs L A c xs A2 c2 X l)) := Lib.hid (BK.step T_x1.out hb)
      have O_x2 : Hid (WOk x2 A c xs A2 c2 X) := Lib.hid (WOk.step O_x1.out hb)
      clear B_x1 T_x1 O_x1
      clear hHeld hb
      go_wp2_with fail
      refine hK.out _ _ T_x2.out (fun hHeld => ?_)
      clear hK K
      try simp only [Act.put, List.setIfInBounds_toArray, List.set_cons_zero, List.set_cons_succ]
      refine wpAnyH_take (i := 1) (v := .bool true) (get_ops _ _ _ rfl) (by kernel_rfl) (by kernel_rfl) (by kernel_rfl) (fun _ _ _ h => h) (Or.inl ⟨by rfl, fun wS hSw => by (try dsimp only at hSw); go_simp⟩) hHeld ?_
      try simp only [Act.put, List.setIfInBounds_toArray, List.set_cons_zero, List.set_cons_succ]
      refine wpAnyH_take (i := 2) (v := (wv L A c xs A2 c2 X l)) (get_ops _ _ _ rfl) (by kernel_rfl) (by kernel_rfl) (by kernel_rfl) (fun _ _ _ h => h) (Or.inl ⟨by rfl, fun wS hSw => by (try dsimp only at hSw); exact exec_load 27 _ rfl ⟨w.heap.size, 0, none⟩ (by go_simp) _ (S2.run_load_all hSw Tryd.underlying27 rfl winSize)⟩) hHeld ?_
      try simp only [Act.put, List.setIfInBounds_toArray, List.set_cons_zero, List.set_cons_succ]
      refine wpAnyH_take (i := 4) (v := (wv L A c xs A2 c2 X l)) (get_ops _ _ _ rfl) (by kernel_rfl) (by kernel_rfl) (by kernel_rfl) (fun _ _ _ h => h) (Or.inl ⟨by rfl, fun wS hSw => by (try dsimp only at hSw); exact exec_load 27 _ rfl ⟨w.heap.size, 0, none⟩ (by go_simp) _ (S2.run_load_all hSw Tryd.underlying27 rfl winSize)⟩) hHeld ?_
      try simp only [Act.put, List.setIfInBounds_toArray, List.set_cons_zero, List.set_cons_succ]
      refine wpAnyH_ready (rs := [3]) (by kernel_rfl) (by simp) ?_
      refine (AllReadyH.cons (get_ops _ _ _ rfl) (fun K hK => ?_) AllReadyH.nil)
      go_simp
      refine (HL1.out x2).mono ?_
      rintro e x3 ⟨rfl, hb⟩
      have B_x3 : Hid (Below w.heap.size w x3) := Lib.hid (stepB B_x2.out hb)
      have T_x3 : Hid (BK 27 x3 w.heap.size (wcs L A c xs A2 c2 X l)) := Lib.hid (BK.step T_x2.out hb)
      have O_x3 : Hid (WOk x3 A c xs A2 c2 X) := Lib.hid (WOk.step O_x2.out hb)
      clear B_x2 T_x2 O_x2
      clear hHeld hb
      go_wp2_with fail
      refine hK.out _ _ T_x3.out (fun hHeld => ?_)
      clear hK K
      try simp only [Act.put, List.setIfInBounds_toArray, List.set_cons_zero, List.set_cons_succ]
      refine wpAnyH_ready (rs := [5]) (by kernel_rfl) (by simp) ?_
      refine (AllReadyH.cons (get_ops _ _ _ rfl) (fun K hK => ?_) AllReadyH.nil)
      go_simp
      refine (HL2.out x3).mono ?_
      rintro e x4 ⟨rfl, hb⟩
      have B_x4 : Hid (Below w.heap.size w x4) := Lib.hid (stepB B_x3.out hb)
      have T_x4 : Hid (BK 27 x4 w.heap.size (wcs L A c xs A2 c2 X l)) := Lib.hid (BK.step T_x3.out hb)
      have O_x4 : Hid (WOk x4 A c xs A2 c2 X) := Lib.hid (WOk.step O_x3.out hb)
      clear B_x3 T_x3 O_x3
      clear hHeld hb
      go_wp2_with fail
      refine hK.out _ _ T_x4.out (fun hHeld => ?_)
      clear hK K
      try simp only [Act.put, List.setIfInBounds_toArray, List.set_cons_zero, List.set_cons_succ]
      refine wpAnyH_take (i := 6) (v := .bool true) (get_ops _ _ _ rfl) (by kernel_rfl) (by kernel_rfl) (by kernel_rfl) (fun _ _ _ h => h) (Or.inl ⟨by rfl, fun wS hSw => by (try dsimp only at hSw); go_simp⟩) hHeld ?_
      try simp only [Act.put, List.setIfInBounds_toArray, List.set_cons_zero, List.set_cons_succ]
      refine wpAnyH_take (i := 7) (v := .bool true) (get_ops _ _ _ rfl) (by kernel_rfl) (by kernel_rfl) (by kernel_rfl) (fun _ _ _ h => h) (Or.inl ⟨by rfl, fun wS hSw => by (try dsimp only at hSw); go_simp⟩) hHeld ?_
      try simp only [Act.put, List.setIfInBounds_toArray, List.set_cons_zero, List.set_cons_succ]
      refine wpAnyH_take (i := 8) (v := .bool true) (get_ops _ _ _ rfl) (by kernel_rfl) (by kernel_rfl) (by kernel_rfl) (fun _ _ _ h => h) (Or.inl ⟨by rfl, fun wS hSw => by (try dsimp only at hSw); go_simp⟩) hHeld ?_
      try simp only [Act.put, List.setIfInBounds_toArray, List.set_cons_zero, List.set_cons_succ]
      refine wpAnyH_take (i := 9) (v := (wv L A c xs A2 c2 X l)) (get_ops _ _ _ rfl) (by kernel_rfl) (by kernel_rfl) (by kernel_rfl) (fun _ _ _ h => h) (Or.inl ⟨by rfl, fun wS hSw => by (try dsimp only at hSw); exact exec_load 27 _ rfl ⟨w.heap.size, 0, none⟩ (by go_simp) _ (S2.run_load_all hSw Tryd.underlying27 rfl winSize)⟩) hHeld ?_
      try simp only [Act.put, List.setIfInBounds_toArray, List.set_cons_zero, List.set_cons_succ]
      refine wpAnyH_take (i := 11) (v := (wv L A c xs A2 c2 X l)) (get_ops _ _ _ rfl) (by kernel_rfl) (by kernel_rfl) (by kernel_rfl) (fun _ _ _ h => h) (Or.inl ⟨by rfl, fun wS hSw => by (try dsimp only at hSw); exact exec_load 27 _ rfl ⟨w.heap.size, 0, none⟩ (by go_simp) _ (S2.run_load_all hSw Tryd.underlying27 rfl winSize)⟩) hHeld ?_
      try simp only [Act.put, List.setIfInBounds_toArray, List.set_cons_zero, List.set_cons_succ]
      refine wpAnyH_ready (rs := [10]) (by kernel_rfl) (by simp) ?_
      refine (AllReadyH.cons (get_ops _ _ _ rfl) (fun K hK => ?_) AllReadyH.nil)
      go_simp
      refine (HR1.out x4 O_x4.out.1).mono ?_
      rintro e x5 ⟨A5, c5, js, rfl, ⟨hjs, hms⟩, hb⟩
      have B_x5 : Hid (Below w.heap.size w x5) := Lib.hid (stepB B_x4.out hb)
      have T_x5 : Hid (BK 27 x5 w.heap.size (wcs L A c xs A2 c2 X l)) := Lib.hid (BK.step T_x4.out hb)
      have O_x5 : Hid (WOk x5 A c xs A2 c2 X) := Lib.hid (WOk.step O_x4.out hb)
      clear B_x4 T_x4 O_x4
      have HJS := Lib.hid hjs
      have J_x5 : Hid (KS x5 x5.heap.size A5 js) := Lib.hid hms
      clear hjs hms
      clear hHeld hb
      go_wp2_with fail
      refine hK.out _ _ T_x5.out (fun hHeld => ?_)
      clear hK K
      try simp only [Act.put, List.setIfInBounds_toArray, List.set_cons_zero, List.set_cons_succ]
      refine wpAnyH_ready (rs := [12]) (by kernel_rfl) (by simp) ?_
      refine (AllReadyH.cons (get_ops _ _ _ rfl) (fun K hK => ?_) AllReadyH.nil)
      go_simp
      refine (HR2.out x5 O_x5.out.1).mono ?_
      rintro e x6 ⟨A6, c6, rfl, hms, hb⟩
      have B_x6 : Hid (Below w.heap.size w x6) := Lib.hid (stepB B_x5.out hb)
      have T_x6 : Hid (BK 27 x6 w.heap.size (wcs L A c xs A2 c2 X l)) := Lib.hid (BK.step T_x5.out hb)
      have O_x6 : Hid (WOk x6 A c xs A2 c2 X) := Lib.hid (WOk.step O_x5.out hb)
      have J_x6 : Hid (KS x6 x6.heap.size A5 js) := Lib.hid (KS.step J_x5.out hb)
      clear B_x5 T_x5 O_x5 J_x5
      have I_x6 : Hid (KS x6 x6.heap.size A6 (xs.map kE)) := Lib.hid hms
      clear hms
      clear hHeld hb
      go_wp2_with fail
      refine hK.out _ _ T_x6.out (fun hHeld => ?_)
      clear hK K
      try simp only [Act.put, List.setIfInBounds_toArray, List.set_cons_zero, List.set_cons_succ]
      refine wpAnyH_ready (rs := [13]) (by kernel_rfl) (by simp) ?_
      refine (AllReadyH.cons (get_ops _ _ _ rfl) (fun K hK => ?_) AllReadyH.nil)
      go_simp
      refine (HPK.out A5 c5 js A6 c6 x6 HJS.out J_x6.out I_x6.out).mono ?_
      rintro e x7 ⟨rfl, hb⟩
      have B_x7 : Hid (Below w.heap.size w x7) := Lib.hid (stepB B_x6.out hb)
      have T_x7 : Hid (BK 27 x7 w.heap.size (wcs L A c xs A2 c2 X l)) := Lib.hid (BK.step T_x6.out hb)
      have O_x7 : Hid (WOk x7 A c xs A2 c2 X) := Lib.hid (WOk.step O_x6.out hb)
      have J_x7 : Hid (KS x7 x7.heap.size A5 js) := Lib.hid (KS.step J_x6.out hb)
      have I_x7 : Hid (KS x7 x7.heap.size A6 (xs.map kE)) := Lib.hid (KS.step I_x6.out hb)
      clear B_x6 T_x6 O_x6 J_x6 I_x6
      clear hHeld hb
      go_wp2_with fail
      refine hK.out _ _ T_x7.out (fun hHeld => ?_)
      clear hK K
      try simp only [Act.put, List.setIfInBounds_toArray, List.set_cons_zero, List.set_cons_succ]
      refine wpAnyH_take (i := 14) (v := .bool true) (get_ops _ _ _ rfl) (by kernel_rfl) (by kernel_rfl) (by kernel_rfl) (fun _ _ _ h => h) (Or.inl ⟨by rfl, fun wS hSw => by (try dsimp only at hSw); go_simp⟩) hHeld ?_
      try simp only [Act.put, List.setIfInBounds_toArray, List.set_cons_zero, List.set_cons_succ]
      refine wpAnyH_take (i := 15) (v := .bool true) (get_ops _ _ _ rfl) (by kernel_rfl) (by kernel_rfl) (by kernel_rfl) (fun _ _ _ h => h) (Or.inl ⟨by rfl, fun wS hSw => by (try dsimp only at hSw); go_simp⟩) hHeld ?_
      try simp only [Act.put, List.setIfInBounds_toArray, List.set_cons_zero, List.set_cons_succ]
      refine wpAnyH_done (by kernel_rfl) ?_ _
      go_wp2
      go_ret
      exact ⟨rfl, B_x7.out⟩
    | succ g =>
      have hlt : k < xs.length := by omega
      have e3 : decide ((k : Int) < (xs.length : Int)) = true := decide_eq_true (by omega)
      have e3' : decide (k < xs.length) = true := decide_eq_true hlt
      obtain ⟨x, hx⟩ : ∃ x, xs[k]? = some x := ⟨_, List.getElem?_eq_getElem hlt⟩
      have hlk2 : ks.length = xs.length := by have := congrArg List.length HKS.out; simpa using this
      obtain ⟨z, hz⟩ : ∃ z, ks[k]? = some z := ⟨_, List.getElem?_eq_getElem (by omega)⟩
      have hy : (xs.map mE)[k]? = some (mE x) := by rw [List.getElem?_map, hx]; rfl
      have hzm : z.m = x.f.m := by
        have h1 : (ks.map ME.m)[k]? = some z.m := by rw [List.getElem?_map, hz]; rfl
        have h2 : ((xs.map FE.f).map Fl.m)[k]? = some x.f.m := by rw [List.getElem?_map, List.getElem?_map, hx]; rfl
        rw [HKS.out, h2] at h1
        exact (Option.some.inj h1).symm
      obtain ⟨b, o, hA3, hbB, hc, hpl⟩ := M_wr.out.at_ hz
      obtain ⟨b', o', hA4, hbB', hc', hpl'⟩ := R_wr.out.at_ hy
      have HS1 := Lib.hid (fun w1 => HSM.out z (mE x) w1 hzm (by rw [hzm]; exact HPR.out x (List.mem_of_getElem? hx)))
      have C_wr : Hid (∀ i v, (gM z)[i]? = some v → wr.cell? ⟨b, o + k * 9 + i, none⟩ = some v) := Lib.hid hc
      have D_wr : Hid (∀ i v, (gM (mE x))[i]? = some v → wr.cell? ⟨b', o' + k * 9 + i, none⟩ = some v) := Lib.hid hc'
      have P_wr : Hid (PL wr wr.heap.size z.a z.m.props) := Lib.hid hpl
      have Q_wr : Hid (PL wr wr.heap.size (mE x).a (mE x).m.props) := Lib.hid hpl'
      subst hA3 hA4
      have j1 : (0 : Int) ≤ (k : Int) := by omega
      have j2 : (k : Int) < (xs.length : Int) := by omega
      have hlk : k ≤ 100000 := by omega
      clear hx hz hy hzm hc hc' hpl hpl' hbB hbB' hkg HSM HR1 HR2 HL1 HL2 HPK HA B_wr T_wr O_wr M_wr R_wr
      have H_wr := HB0
      go_upto_region 9 with fail
      obtain ⟨u1, hu1⟩ : ∃ u1, u1 = World.drew wr := ⟨_, rfl⟩
      have hbD : Below wr.heap.size wr u1 := by rw [hu1]; exact (Below.refl _ _).drew
      have H_u1 : Hid (Below v3.heap.size v3 u1) := Lib.hid (stepB H_wr.out hbD)
      have C_u1 : Hid (∀ i v, (gM z)[i]? = some v → u1.cell? ⟨b, o + k * 9 + i, none⟩ = some v) := Lib.hid (cells_stepG C_wr.out hbD)
      have D_u1 : Hid (∀ i v, (gM (mE x))[i]? = some v → u1.cell? ⟨b', o' + k * 9 + i, none⟩ = some v) := Lib.hid (cells_stepG D_wr.out hbD)
      have P_u1 : Hid (PL u1 u1.heap.size z.a z.m.props) := Lib.hid (GL.step P_wr.out hbD)
      have Q_u1 : Hid (PL u1 u1.heap.size (mE x).a (mE x).m.props) := Lib.hid (GL.step Q_wr.out hbD)
      clear H_wr C_wr D_wr P_wr Q_wr
      have hbd : (fun w' => (∀ i v, (gM z)[i]? = some v → w'.cell? ⟨b, o + k * 9 + i, none⟩ = some v) ∧ (∀ i v, (gM (mE x))[i]? = some v → w'.cell? ⟨b', o' + k * 9 + i, none⟩ = some v)) (World.drew wr) := by rw [← hu1]; exact ⟨C_u1.out, D_u1.out⟩
      have hSD : (fun w' => (∀ i v, (gM z)[i]? = some v → w'.cell? ⟨b, o + k * 9 + i, none⟩ = some v) ∧ (∀ i v, (gM (mE x))[i]? = some v → w'.cell? ⟨b', o' + k * 9 + i, none⟩ = some v)) u1 := ⟨C_u1.out, D_u1.out⟩
      have HWD := Lib.hid hu1
      clear hu1 hbD
      refine wp_region_held_drew (S := fun w' => (∀ i v, (gM z)[i]? = some v → w'.cell? ⟨b, o + k * 9 + i, none⟩ = some v) ∧ (∀ i v, (gM (mE x))[i]? = some v → w'.cell? ⟨b', o' + k * 9 + i, none⟩ = some v)) (by kernel_rfl) hbd (fun hHeld => ?_)
      rw [← HWD.out]
      clear hHeld
      have hHeld := hSD
      clear hSD hbd HWD
      refine wpAnyH_take (i := 0) (v := (.slice (some ⟨b, o, none⟩) xs.length c3)) (get_ops _ _ _ rfl) (by kernel_rfl) (by kernel_rfl) (by kernel_rfl) (fun _ _ _ h => h) (Or.inl ⟨by rfl, fun wS hSw => by (try dsimp only at hSw); go_simp⟩) hHeld ?_
      try simp only [Act.put, List.setIfInBounds_toArray, List.set_cons_zero, List.set_cons_succ]
      refine wpAnyH_take (i := 1) (v := .int .i64 ((k : Int))) (get_ops _ _ _ rfl) (by kernel_rfl) (by kernel_rfl) (by kernel_rfl) (fun _ _ _ h => h) (Or.inl ⟨by rfl, fun wS hSw => by (try dsimp only at hSw); go_simp⟩) hHeld ?_
      try simp only [Act.put, List.setIfInBounds_toArray, List.set_cons_zero, List.set_cons_succ]
      refine wpAnyH_take (i := 2) (v := (.pointer (some ⟨b, o + k * 9, none⟩))) (get_ops _ _ _ rfl) (by kernel_rfl) (by kernel_rfl) (by kernel_rfl) (fun _ _ _ h => h) (Or.inl ⟨by rfl, fun wS hSw => by (try dsimp only at hSw); go_simp⟩) hHeld ?_
      try simp only [Act.put, List.setIfInBounds_toArray, List.set_cons_zero, List.set_cons_succ]
      refine wpAnyH_take (i := 3) (v := (msgV z.m z.a z.c)) (get_ops _ _ _ rfl) (by kernel_rfl) (by kernel_rfl) (by kernel_rfl) (fun _ _ _ h => h) (Or.inl ⟨by rfl, fun wS hSw => by (try dsimp only at hSw); exact exec_load 39 _ rfl ⟨b, o + k * 9, none⟩ (by go_simp) _ (load_me hSw.1)⟩) hHeld ?_
      try simp only [Act.put, List.setIfInBounds_toArray, List.set_cons_zero, List.set_cons_succ]
      refine wpAnyH_take (i := 4) (v := (.slice (some ⟨b', o', none⟩) xs.length c4)) (get_ops _ _ _ rfl) (by kernel_rfl) (by kernel_rfl) (by kernel_rfl) (fun _ _ _ h => h) (Or.inl ⟨by rfl, fun wS hSw => by (try dsimp only at hSw); go_simp⟩) hHeld ?_
      try simp only [Act.put, List.setIfInBounds_toArray, List.set_cons_zero, List.set_cons_succ]
      refine wpAnyH_take (i := 5) (v := .int .i64 ((k : Int))) (get_ops _ _ _ rfl) (by kernel_rfl) (by kernel_rfl) (by kernel_rfl) (fun _ _ _ h => h) (Or.inl ⟨by rfl, fun wS hSw => by (try dsimp only at hSw); go_simp⟩) hHeld ?_
      try simp only [Act.put, List.setIfInBounds_toArray, List.set_cons_zero, List.set_cons_succ]
      refine wpAnyH_take (i := 6) (v := (.pointer (some ⟨b', o' + k * 9, none⟩))) (get_ops _ _ _ rfl) (by kernel_rfl) (by kernel_rfl) (by kernel_rfl) (fun _ _ _ h => h) (Or.inl ⟨by rfl, fun wS hSw => by (try dsimp only at hSw); go_simp⟩) hHeld ?_
      try simp only [Act.put, List.setIfInBounds_toArray, List.set_cons_zero, List.set_cons_succ]
      refine wpAnyH_take (i := 7) (v := (msgV (mE x).m (mE x).a (mE x).c)) (get_ops _ _ _ rfl) (by kernel_rfl) (by kernel_rfl) (by kernel_rfl) (fun _ _ _ h => h) (Or.inl ⟨by rfl, fun wS hSw => by (try dsimp only at hSw); exact exec_load 39 _ rfl ⟨b', o' + k * 9, none⟩ (by go_simp) _ (load_me hSw.2)⟩) hHeld ?_
      try simp only [Act.put, List.setIfInBounds_toArray, List.set_cons_zero, List.set_cons_succ]
      refine wpAnyH_ready (rs := [8]) (by kernel_rfl) (by simp) ?_
      refine (AllReadyH.cons (get_ops _ _ _ rfl) (fun K hK => ?_) AllReadyH.nil)
      go_simp
      refine (HS1.out u1 P_u1.out Q_u1.out).mono ?_
      rintro e u2 ⟨rfl, hb⟩
      have H_u2 : Hid (Below v3.heap.size v3 u2) := Lib.hid (stepB H_u1.out hb)
      have C_u2 : Hid (∀ i v, (gM z)[i]? = some v → u2.cell? ⟨b, o + k * 9 + i, none⟩ = some v) := Lib.hid (cells_stepG C_u1.out hb)
      have D_u2 : Hid (∀ i v, (gM (mE x))[i]? = some v → u2.cell? ⟨b', o' + k * 9 + i, none⟩ = some v) := Lib.hid (cells_stepG D_u1.out hb)
      have P_u2 : Hid (PL u2 u2.heap.size z.a z.m.props) := Lib.hid (GL.step P_u1.out hb)
      have Q_u2 : Hid (PL u2 u2.heap.size (mE x).a (mE x).m.props) := Lib.hid (GL.step Q_u1.out hb)
      clear H_u1 C_u1 D_u1 P_u1 Q_u1
      clear hHeld hb
      go_wp2_with fail
      refine hK.out _ _ ⟨C_u2.out, D_u2.out⟩ (fun hHeld => ?_)
      clear hK K
      try simp only [Act.put, List.setIfInBounds_toArray, List.set_cons_zero, List.set_cons_succ]
      refine wpAnyH_take (i := 9) (v := .bool false) (get_ops _ _ _ rfl) (by kernel_rfl) (by kernel_rfl) (by kernel_rfl) (fun _ _ _ h => h) (Or.inl ⟨by rfl, fun wS hSw => by (try dsimp only at hSw); go_simp⟩) hHeld ?_
      try simp only [Act.put, List.setIfInBounds_toArray, List.set_cons_zero, List.set_cons_succ]
      refine wpAnyH_done (by kernel_rfl) ?_ _
      go_wp2
      go_roundg g
      case measure => omega
      case rel => exact ⟨k + 1, by have := HK.out; omega, by go_num, H_u2.out⟩
end Go.Proofs.YtjadinblfbhgaaaDoor
namespace Go.Proofs.YtjadinblfbhgaaaDoor.inflightTells
open Go.ChangeShapes Go.WideShapes Go.ChangeAt Go.WideMaps Go.WideElems Go.RowKit
open Go.ChangeMaps (open_string shut_string)

theorem own : ownKnob Tryd.prog.godebug = none := by kernel_rfl
theorem okw {W : World} (h : W.ShapedOpen Tryd.prog) : S1.Okw W := Tryd.laysM143.s1_3 W h

set_option maxRecDepth 100000 in
theorem contract (H : Type) (enc : TypeId × Value → H) (W : World) (base : Nat) (args : Array Value) (ds gs : List (DataW H)) (before : List MemPlace)
    (hval : ∀ (j : Nat) t v, Tryd.f4.params[j]? = some t → args[j]? = some v → Value.okWide Tryd.prog W .any base t v)
    (hW : DataW.Whole enc Tryd.prog Tryd.f4.params.toList Rows.inflightTellsSpec.vars false W args.toList ds gs before)
    (hsz : (DataW.weightsEach Tryd.prog (Tryd.f4.params.toList ++ (OpenSpec.ofChange Rows.inflightTellsSpec).bare.plain.varTypes Tryd.prog) (ds ++ gs)).all (· ≤ reachBytes) = true)
    (hsh : W.ShapedOpen Tryd.prog) :
    Calls Tryd.prog 4 args W fun e W' => ∃ v, e = .returned v ∧ Rows.inflightTellsSpec.post enc Tryd.prog Tryd.f4 false true false false W args v W' := by
  have hW' := hW
  obtain ⟨p, q, hA0, hV, rfl, hfz, hnd⟩ := hW
  have hA : DataW.TrodAll enc Tryd.prog W 0 (fun _ => true) true Tryd.f4.params.toList args.toList ds p := hA0
  rw [Tryd.params4] at hA hval
  obtain ⟨v0, vs0, d0, ds0, p0, q0, hargs, rfl, rfl, h0, r0⟩ := trodAll_cons hA
  obtain ⟨rfl, rfl, rfl⟩ := trodAll_nil r0
  obtain rfl : args = #[v0] := by cases args; simp_all
  obtain ⟨rfl, rfl⟩ := trodVars_none hV
  have h0k := h0
  obtain ⟨L0, A0, c0, xs0, B0, e0, X0, l0, rfl, ok0, hXl0, hnl0, fo0, hXb0⟩ := open_win (hval 0 27 v0 rfl rfl) h0
  clear hA0
  simp only [List.append_nil] at hW'
  have hrb := reachBytes_lt
  have hlt : ∀ x ∈ p0, x.block < W.heap.size := fun x hx => by simpa using hW'.lt x (by simpa using hx)
  refine (inflightTells_walk L0 A0 c0 xs0 B0 e0 X0 l0 W (okw hsh) ok0 hXl0 hnl0 (fun x hx => (fo0 x hx).2)).mono fun e W' ⟨he, hb⟩ => ?_
  subst he
  have e1 : Rows.inflightTellsSpec.fn H ([d0] ++ []) = { results := [.lit (.bool true)], args := [d0] } := rfl
  refine ⟨_, rfl, _, _, _, [], p0, [], by simpa using hW', ?_, ?_, ?_, hb.frame _, fun h => by cases h⟩
  · exact trodAll_cons_mk (shut_bool Tryd.underlying4 _) trodAll_mk0
  · rw [e1]
    simpa using trodAll_cons_mk (Below.trod laidOutAll (by kernel_rfl) (of_decide_eq_true (by kernel_rfl)) h0k hb (fun x hx => hlt x (by simp [hx]))) (trodAll_mk0)
  · rfl

theorem laid_met (os : Os) : laidMet Tryd.prog Rows.inflightTellsRow.laid ((World.laidAll Tryd.prog os Rows.inflightTellsRow.laid).forCall (fun _ _ => 0) ⟨#[], #[.agg #[.int .i64 0, .slice none 0 0, .slice none 0 0, .int .i64 0]], []⟩).memory :=
  laidMet_laidAll _ (by kernel_rfl) (by kernel_rfl)
theorem reads (os : Os) {H : Type} (enc : TypeId × Value → H) : ∃ places, DataW.whole enc Tryd.prog ((World.laidAll Tryd.prog os Rows.inflightTellsRow.laid).forCall (fun _ _ => 0) ⟨#[], #[.agg #[.int .i64 0, .slice none 0 0, .slice none 0 0, .int .i64 0]], []⟩).memory Tryd.f4.params.toList Rows.inflightTellsSpec.vars false #[Value.agg #[.int .i64 0, .slice none 0 0, .slice none 0 0, .int .i64 0]].toList 8 = some ([.agg [.lit (.int .i64 0), .nil, .agg [.nil, .lit (.int .i64 0)]]], [], places) :=
  ⟨[], by kernel_rfl⟩

set_option maxRecDepth 100000 in
theorem lifted (os : Os) (started : os.Started) (H : Type) (enc : TypeId × Value → H) (F : Stop.Interp) :
    ReturnsInHanded {} Tryd.checked os 4 .any ((OpenSpec.ofChange Rows.inflightTellsSpec).preRow enc Tryd.prog Tryd.f4 Rows.inflightTellsRow.domain false Rows.inflightTellsRow.laid) (((OpenSpec.ofChange Rows.inflightTellsSpec).at F).post enc Tryd.prog Tryd.f4 false true false false) := by
  obtain ⟨places, hx⟩ := reads os enc
  refine returnsInHanded_of_row (C := Tryd.checked) (s := (OpenSpec.ofChange Rows.inflightTellsSpec)) own started (by kernel_rfl) Tryd.func4
    (witness_row_at (enc := enc) (C := Tryd.checked) false (World.laidAll Tryd.prog os Rows.inflightTellsRow.laid) #[.agg #[.int .i64 0, .slice none 0 0, .slice none 0 0, .int .i64 0]] (World.laidAll_os _ _ _) (by kernel_rfl) (by kernel_rfl) (by kernel_rfl)
      (OpenSpec.preRow_of_cond 8 hx (by kernel_rfl) (fun k hk => by cases hk) (by kernel_rfl) (laid_met os))) ?_
  intro W base args ds gs before hval hW _ _ hsz _ hsh _
  exact contract H enc W base args ds gs before hval hW hsz hsh

theorem said : Rows.InflightTellsSaid :=
  OpenClaim.holds_of_cond 4 Tryd.f4 rfl rfl rfl rfl rfl rfl rfl ⟨rfl, rfl, rfl, rfl, rfl⟩ rfl rfl rfl rfl rfl (by kernel_rfl) Tryd.func4 (by kernel_rfl)
    (of_decide_eq_true (by kernel_rfl)) (by unfold Func.isWrapper; first | (rw [if_pos (by decide +kernel)]; kernel_rfl) | (rw [if_neg (by decide +kernel)]; exact ⟨rfl, rfl⟩))
    (fun os started H enc _ F => by rw [OpenClaim.pre_eq_preRow]; exact lifted os started H enc F)

theorem plain (f : FuncId) (fn : Func) (hf : Tryd.pinned.checked.prog.funcNamed "broker/brokerlaw14.InflightTells" = some f) (hfn : Tryd.pinned.checked.prog.funcs[f]? = some fn) :
    false = Tryd.pinned.checked.prog.looks [] ∧ ∀ (j : Nat) t, fn.params[j]? = some t → Tryd.pinned.checked.prog.wantsStandIn t = false := by
  obtain rfl : f = 4 := Option.some.inj ((show Tryd.prog.funcNamed "broker/brokerlaw14.InflightTells" = some 4 by kernel_rfl).symm.trans hf) |>.symm
  obtain rfl : fn = Tryd.f4 := (Option.some.inj (Tryd.func4.symm.trans hfn)).symm
  refine ⟨by kernel_rfl, fun j t ht => ?_⟩
  rw [Tryd.params4] at ht
  have hm : t ∈ [27] := by simpa using Array.mem_of_getElem? ht
  simp only [List.mem_cons, List.not_mem_nil, or_false] at hm
  subst hm
  exact (show Tryd.prog.wantsStandIn 27 = false by kernel_rfl)

theorem card : Rows.InflightTellsCardSaid :=
  Claim7.holds_tied_plain_at .later [] _ _ _ _ said (fun _ h => by cases h) (by kernel_rfl) (fun _ h => by cases h) inflightTells_row_tie rfl ⟨rfl, rfl⟩ (by kernel_rfl) rfl plain (by kernel_rfl)
end Go.Proofs.YtjadinblfbhgaaaDoor.inflightTells
