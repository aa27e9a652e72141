/-
  What Resend and Messages of inflight answer: the packets to send again, the messages in flight. Conditions: the window reads as data; few items, with few properties.
  What Messages of inflight answers: the messages in flight. Conditions: the window reads as data; few items, with few properties.
-/
import Derived.Test.YtmcocepjdhpecabGreatDoorWn
namespace Go.Proofs.YtmcocepjdhpecabGreatDoor
open Go.RowKit
open S2 (BK Put)

section
variable {α : Type} {e : TypeId} {g : α → List Value} {k : Nat} {ad : α → Option Addr} {ps : α → List PR} {B : Nat} {w w' : World} {v : Value} {xs : List α}
end

theorem pktInfo : (Tryz.prog.info? 42).map (fun i => (i.zero, i.size, i.bytes)) = some (some (.agg zeroPk.toArray), 34, (Tryz.prog.bytesOf 42)) := by kernel_rfl
theorem pktBytes : 0 < Tryz.prog.bytesOf 42 ∧ Tryz.prog.bytesOf 42 ≤ 1000 := by decide +kernel
/-- packets that a call answers, in memory of their own -/
def RetKs (l : List Pkt) (W : World) (e : Ending) (w' : World) : Prop := ∃ A c ks, e = .returned (.slice A ks.length c) ∧ ks.map Prod.fst = l ∧ KS w' w'.heap.size A ks ∧ NewL W.heap.size A ∧ Below W.heap.size W w'
abbrev LstK (B : Nat) (w : World) (v : Value) (ks : List (Pkt × PA)) : Prop := Lst 42 gK 34 (fun z => z.2.m) (fun z => z.1.msg.props) B w v ks

theorem again_plain (x : Fl) (a : PA) (w : World) (B : Nat) (h : PL w B a.m (againP x).msg.props) : KP w B (againP x, a) := by
  unfold againP at h ⊢
  split
  · exact KP.rel _ _ _ _
  · next hs => rw [if_neg hs] at h; exact KP.pub h

set_option maxRecDepth 20000 in
set_option maxHeartbeats 2000000 in
theorem resend_any (L : Int) (A : Option Addr) (c : Nat) (xs : List FE) (A2 : Option Addr) (c2 : Nat) (X : List Int) (l : Int) (w : World) (hsl : FI w w.heap.size A xs) (hn : xs.length ≤ 100000) (hp : ∀ x ∈ xs, x.f.m.props.length ≤ 100000) :
    Calls Tryz.prog 43 #[wv L A c xs A2 c2 X l] w (RetKs ((xs.map FE.f).map againP) w) := by
  have HAG := Lib.hid (fun x w1 h hl => again_any x w1 h hl)
  have HS := Lib.hid (hsl.step (S2.below_new w (.cells (wcs L A c xs A2 c2 X l).toArray 28)))
  have HB := Lib.hid (S2.below_new w (.cells (wcs L A c xs A2 c2 X l).toArray 28))
  have HM : Hid (BK 28 (w.alloc (.cells (wcs L A c xs A2 c2 X l).toArray 28)) w.heap.size (wcs L A c xs A2 c2 X l)) := Lib.hid (BK.new w _ _)
  have HP := Lib.hid hp
  obtain ⟨RR, hRR⟩ : ∃ RR, (xs.map FE.f).map againP = RR := ⟨_, rfl⟩
  rw [hRR]
  have HRR := Lib.hid hRR
  clear hsl hp hRR
  go_enter Tryz.func43, Tryz.ntmps43
  go_upto_region 2 with fail
  refine name_world (C := fun w1 => Code.wp _ _ _ _ w1) (w.alloc (.cells (wcs L A c xs A2 c2 X l).toArray 28)) ?_
  generalize w.alloc (.cells (wcs L A c xs A2 c2 X l).toArray 28) = w0 at HS HB HM
  intro w1 hw1
  subst hw1
  have d1 := HM.out.cell 1 rfl
  go_wp2_with fail
  clear d1
  go_loopg [3, 8] xs.length (fun g u3 v wr => ∃ (k : Nat) (ks : List (Pkt × PA)), k + g = xs.length ∧ v = .int .i64 k ∧ ks.map Prod.fst = ((xs.map FE.f).take k).map againP ∧ LstK w1.heap.size wr u3 ks ∧ (∀ z ∈ ks, ∃ x a, z = (againP x, a)) ∧ Below w1.heap.size w1 wr ∧ w1.heap.size ≤ wr.heap.size)
  case atStart => exact ⟨0, [], by omega, rfl, by simp, Lst.nil, (fun z hz => by cases hz), Below.refl _ _, Nat.le_refl _⟩
  case round =>
    obtain ⟨k, ks, hkg, rfl, hks, hlst, hsh, hb0, hsz⟩ := hrel
    have HKS := Lib.hid hks
    have HL := Lib.hid hlst
    have HSH := Lib.hid hsh
    have HB0 := Lib.hid hb0
    have HK := Lib.hid hkg
    have HSZ := Lib.hid hsz
    have hkl : ks.length = k := by
      have := congrArg List.length hks
      simp only [List.length_map, List.length_take] at this
      omega
    have HKL := Lib.hid hkl
    clear hks hlst hsh hb0 hsz hkl
    cases gk with
    | zero =>
      obtain rfl : k = xs.length := by omega
      obtain ⟨A3, c3, rfl, hc3, hn3, hgl3, hpl3⟩ := HL.out.ret gK_len
      have HGL := Lib.hid hgl3
      have HPL := Lib.hid hpl3
      have HN3 := Lib.hid hn3
      clear hkg hc3 hn3 hgl3 hpl3
      go_wp2
      go_ret
      refine ⟨A3, c3, ks, rfl, by rw [← HRR.out, HKS.out, List.take_of_length_le (by rw [List.length_map]; exact Nat.le_refl _)], ⟨HGL.out, fun z hz => ?_⟩, fun b o e => by have := HN3.out b o e; have := HB.out.size; omega, stepB HB.out HB0.out⟩
      obtain ⟨x, a, rfl⟩ := HSH.out z hz
      exact again_plain x a _ _ (HPL.out _ hz).1
    | succ g =>
      have hlt : k < xs.length := by omega
      have e3 : decide ((k : Int) < (xs.length : Int)) = true := decide_eq_true (by omega)
      obtain ⟨x, hx⟩ : ∃ x, xs[k]? = some x := ⟨_, List.getElem?_eq_getElem hlt⟩
      obtain ⟨b, o, hA, hbB, hc, hpl⟩ := (HS.out.step HB0.out).at_ hx
      have HLD := Lib.hid (load_item hc)
      have HCA := Lib.hid (HAG.out x wr hpl (HP.out x (List.mem_of_getElem? hx)))
      have HXF : Hid ((xs.map FE.f)[k]? = some x.f) := Lib.hid (by rw [List.getElem?_map, hx]; rfl)
      subst hA
      have d1 := (HM.out.step HB0.out).cell 1 rfl
      have j1 : (0 : Int) ≤ (k : Int) := by omega
      have j2 : (k : Int) < (xs.length : Int) := by omega
      have hlk : k ≤ 100000 := by omega
      clear hx hc hpl hbB hkg
      go_wp2_with first
        | (refine wpList_load_v (by rfl) 56 _ rfl ⟨b, o + k * 11, none⟩ (by simp [Act.eval, Act.put]) _ HLD.out ?_)
      refine HCA.out.mono ?_
      rintro e w2 ⟨a2, c4, rfl, hpl2, hnew2, hb2⟩
      have HL2 := Lib.hid (HL.out.step hb2)
      have HP2 := Lib.hid hpl2
      have HN2 := Lib.hid hnew2
      have HB2 := Lib.hid (stepB HB0.out hb2)
      have HZ2 := Lib.hid hb2.size
      have HQL : Hid (∀ q n c, u3 = .slice (some ⟨q, 0, none⟩) n c → q < wr.heap.size) := Lib.hid (fun q n c hv => (ownG_lt HL.out.1 q n c hv).2)
      clear hb2 hpl2 hnew2 HLD HCA HL d1
      simp only [pkV, pkC]
      go_wp2_with first
        | (at_builtin; refine wpList_lst gK_len gK_one (by decide) w2 rfl _ _ 46 rfl (.agg zeroPk.toArray) (Tryz.prog.bytesOf 42) Tryz.underlying46 pktInfo rfl (againP x.f, pubA a2 c4) rfl HL2.out (by rfl) HP2.out (fun b o e => by have := HN2.out b o e; have := HSZ.out; omega) (fun b o e _ q n c hv => by have := HN2.out b o e; have := HQL.out q n c hv; omega) w1 HB2.out (by have := HSZ.out; have := HZ2.out; omega) (Nat.le_trans (Nat.mul_le_mul (show ks.length + 1 ≤ 100001 by rw [HKL.out]; omega) pktBytes.2) (by decide)) pktBytes.1 ?_; intro v3 w3 hl3 hb3 hs3)
      have HL3 := Lib.hid hl3
      have HB3 := Lib.hid hb3
      have HS3 := Lib.hid hs3
      clear hl3 hb3 hs3
      go_roundg g
      case measure => omega
      case rel => exact ⟨k + 1, ks ++ [(againP x.f, pubA a2 c4)], by have := HK.out; omega, by go_num, by rw [List.map_append, HKS.out, List.take_add_one, HXF.out]; simp, HL3.out, (fun z hz => by
        rcases List.mem_append.1 hz with hz | hz
        · exact HSH.out z hz
        · simp at hz; exact ⟨x.f, pubA a2 c4, hz⟩), HB3.out, HS3.out⟩
end Go.Proofs.YtmcocepjdhpecabGreatDoor
namespace Go.Proofs.YtmcocepjdhpecabGreatDoor
open Go.RowKit
open S2 (BK Put)

/-- a message and where its properties lie -/
structure ME where
  m : Msg
  a : Option Addr
  c : Nat
def gM (z : ME) : List Value := msgC z.m z.a z.c
theorem gM_len (z : ME) : (gM z).length = 9 := rfl
theorem gM_one (z : ME) : ∀ u ∈ gM z, u.oneCell' = true := msgC_one _ _ _
theorem msgInfo : (Tryz.prog.info? 34).map (fun i => (i.zero, i.size, i.bytes)) = some (some (.agg (msgC Msg.zero none 0).toArray), 9, 112) := by kernel_rfl
/-- the slice with this address reads as these messages, below block B -/
def MS (w : World) (B : Nat) (A : Option Addr) (xs : List ME) : Prop := GL gM 9 w B A xs ∧ ∀ x ∈ xs, PL w B x.a x.m.props
theorem MS.step {w w' : World} {A : Option Addr} {xs : List ME} (h : MS w w.heap.size A xs) (hb : Below w.heap.size w w') : MS w' w'.heap.size A xs := ⟨h.1.step hb, fun x hx => (h.2 x hx).step hb⟩
theorem MS.at_ {w : World} {B : Nat} {A : Option Addr} {xs : List ME} (h : MS w B A xs) {j : Nat} {x : ME} (hx : xs[j]? = some x) :
    ∃ b o, A = some ⟨b, o, none⟩ ∧ b < B ∧ (∀ i v, (gM x)[i]? = some v → w.cell? ⟨b, o + j * 9 + i, none⟩ = some v) ∧ PL w B x.a x.m.props := by
  obtain ⟨b, o, e, hb, hc⟩ := h.1 (Nat.lt_of_le_of_lt (Nat.zero_le _) (List.getElem?_eq_some_iff.1 hx).1)
  exact ⟨b, o, e, hb, fun i v hv => hc j x i v hx hv, h.2 x (List.mem_of_getElem? hx)⟩
theorem load_me {w : World} {b o : Nat} {x : ME} (hc : ∀ i v, (gM x)[i]? = some v → w.cell? ⟨b, o + i, none⟩ = some v) : (loadVar 34 ⟨b, o, none⟩).run Tryz.prog w = .ok (msgV x.m x.a x.c) w :=
  run_load_cells w b o (gM x) 34 _ hc Tryz.underlying34 rfl msgSize
/-- messages that a call answers, in memory of their own -/
def RetMs (l : List Msg) (W : World) (e : Ending) (w' : World) : Prop := ∃ A c ks, e = .returned (.slice A ks.length c) ∧ ks.map ME.m = l ∧ MS w' w'.heap.size A ks ∧ NewL W.heap.size A ∧ Below W.heap.size W w'
abbrev LstM (B : Nat) (w : World) (v : Value) (ks : List ME) : Prop := Lst 34 gM 9 (fun z => z.a) (fun z => z.m.props) B w v ks

set_option maxRecDepth 20000 in
set_option maxHeartbeats 2000000 in
theorem messages_any (L : Int) (A : Option Addr) (c : Nat) (xs : List FE) (A2 : Option Addr) (c2 : Nat) (X : List Int) (l : Int) (w : World) (hsl : FI w w.heap.size A xs) (hn : xs.length ≤ 100000) (hp : ∀ x ∈ xs, x.f.m.props.length ≤ 100000) :
    Calls Tryz.prog 44 #[wv L A c xs A2 c2 X l] w (RetMs ((xs.map FE.f).map Fl.m) w) := by
  have HAG := Lib.hid (fun m a c w1 h hl => cloneMessage_any m a c w1 h hl)
  have HS := Lib.hid (hsl.step (S2.below_new w (.cells (wcs L A c xs A2 c2 X l).toArray 28)))
  have HB := Lib.hid (S2.below_new w (.cells (wcs L A c xs A2 c2 X l).toArray 28))
  have HM : Hid (BK 28 (w.alloc (.cells (wcs L A c xs A2 c2 X l).toArray 28)) w.heap.size (wcs L A c xs A2 c2 X l)) := Lib.hid (BK.new w _ _)
  have HP := Lib.hid hp
  obtain ⟨RR, hRR⟩ : ∃ RR, (xs.map FE.f).map Fl.m = RR := ⟨_, rfl⟩
  rw [hRR]
  have HRR := Lib.hid hRR
  clear hsl hp hRR
  go_enter Tryz.func44, Tryz.ntmps44
  go_upto_region 2 with fail
  refine name_world (C := fun w1 => Code.wp _ _ _ _ w1) (w.alloc (.cells (wcs L A c xs A2 c2 X l).toArray 28)) ?_
  generalize w.alloc (.cells (wcs L A c xs A2 c2 X l).toArray 28) = w0 at HS HB HM
  intro w1 hw1
  subst hw1
  have d1 := HM.out.cell 1 rfl
  go_wp2_with fail
  clear d1
  go_loopg [3, 8] xs.length (fun g u3 v wr => ∃ (k : Nat) (ks : List ME), k + g = xs.length ∧ v = .int .i64 k ∧ ks.map ME.m = ((xs.map FE.f).take k).map Fl.m ∧ LstM w1.heap.size wr u3 ks ∧ Below w1.heap.size w1 wr ∧ w1.heap.size ≤ wr.heap.size)
  case atStart => exact ⟨0, [], by omega, rfl, by simp, Lst.nil, Below.refl _ _, Nat.le_refl _⟩
  case round =>
    obtain ⟨k, ks, hkg, rfl, hks, hlst, hb0, hsz⟩ := hrel
    have HKS := Lib.hid hks
    have HL := Lib.hid hlst
    have HB0 := Lib.hid hb0
    have HK := Lib.hid hkg
    have HSZ := Lib.hid hsz
    have hkl : ks.length = k := by
      have := congrArg List.length hks
      simp only [List.length_map, List.length_take] at this
      omega
    have HKL := Lib.hid hkl
    clear hks hlst hb0 hsz hkl
    cases gk with
    | zero =>
      obtain rfl : k = xs.length := by omega
      obtain ⟨A3, c3, rfl, hc3, hn3, hgl3, hpl3⟩ := HL.out.ret gM_len
      have HGL := Lib.hid hgl3
      have HPL := Lib.hid hpl3
      have HN3 := Lib.hid hn3
      clear hkg hc3 hn3 hgl3 hpl3
      go_wp2
      go_ret
      refine ⟨A3, c3, ks, rfl, by rw [← HRR.out, HKS.out, List.take_of_length_le (by rw [List.length_map]; exact Nat.le_refl _)], ⟨HGL.out, fun z hz => (HPL.out _ hz).1⟩, fun b o e => by have := HN3.out b o e; have := HB.out.size; omega, stepB HB.out HB0.out⟩
    | succ g =>
      have hlt : k < xs.length := by omega
      have e3 : decide ((k : Int) < (xs.length : Int)) = true := decide_eq_true (by omega)
      obtain ⟨x, hx⟩ : ∃ x, xs[k]? = some x := ⟨_, List.getElem?_eq_getElem hlt⟩
      obtain ⟨b, o, hA, hbB, hc, hpl⟩ := (HS.out.step HB0.out).at_ hx
      have HLD := Lib.hid (load_item_msg hc)
      have HCA := Lib.hid (HAG.out x.f.m x.a x.c wr hpl (HP.out x (List.mem_of_getElem? hx)))
      have HXF : Hid ((xs.map FE.f)[k]? = some x.f) := Lib.hid (by rw [List.getElem?_map, hx]; rfl)
      subst hA
      have d1 := (HM.out.step HB0.out).cell 1 rfl
      have j1 : (0 : Int) ≤ (k : Int) := by omega
      have j2 : (k : Int) < (xs.length : Int) := by omega
      have hlk : k ≤ 100000 := by omega
      clear hx hc hpl hbB hkg
      go_wp2_with first
        | (refine wpList_load_v (by rfl) 34 _ rfl ⟨b, o + k * 11 + 2, none⟩ (by simp [Act.eval, Act.put]) _ HLD.out ?_)
      refine HCA.out.mono ?_
      rintro e w2 ⟨a2, c4, rfl, hpl2, hnew2, hb2⟩
      have HL2 := Lib.hid (HL.out.step hb2)
      have HP2 := Lib.hid hpl2
      have HN2 := Lib.hid hnew2
      have HB2 := Lib.hid (stepB HB0.out hb2)
      have HZ2 := Lib.hid hb2.size
      have HQL : Hid (∀ q n c, u3 = .slice (some ⟨q, 0, none⟩) n c → q < wr.heap.size) := Lib.hid (fun q n c hv => (ownG_lt HL.out.1 q n c hv).2)
      clear hb2 hpl2 hnew2 HLD HCA HL d1
      simp only [msgV]
      go_wp2_with first
        | (at_builtin; refine wpList_lst gM_len gM_one (by decide) w2 rfl _ _ 78 rfl (.agg (msgC Msg.zero none 0).toArray) 112 Tryz.underlying78 msgInfo rfl (⟨x.f.m, a2, c4⟩ : ME) rfl HL2.out (by rfl) HP2.out (fun b o e => by have := HN2.out b o e; have := HSZ.out; omega) (fun b o e _ q n c hv => by have := HN2.out b o e; have := HQL.out q n c hv; omega) w1 HB2.out (by have := HSZ.out; have := HZ2.out; omega) (by rw [HKL.out]; omega) (by decide) ?_; intro v3 w3 hl3 hb3 hs3)
      have HL3 := Lib.hid hl3
      have HB3 := Lib.hid hb3
      have HS3 := Lib.hid hs3
      clear hl3 hb3 hs3
      go_roundg g
      case measure => omega
      case rel => exact ⟨k + 1, ks ++ [⟨x.f.m, a2, c4⟩], by have := HK.out; omega, by go_num, by rw [List.map_append, HKS.out, List.take_add_one, HXF.out]; simp, HL3.out, HB3.out, HS3.out⟩
end Go.Proofs.YtmcocepjdhpecabGreatDoor
