/-
  What put and Mark of dead's reference answer. Conditions: the message is valid, the queue's name a name, the reason one of the four.
-/
import Derived.Test.YthpplhhlhheopabDoorDzI
import Derived.Test.YthpplhhlhheopabDoorSetR
namespace Go.Proofs.YthpplhhlhheopabDoor
open Go.RowKit
open S2 (BK Put)

/-- the place of a key in a list in order, reached from the front -/
theorem pos_at {l : List PR} {key : ByteArray} {i : Nat} (h : PW l) (hi : i ≤ l.length) (h1 : ∀ j x, j < i → l[j]? = some x → ltS x.1 key = true) (h2 : ∀ x, l[i]? = some x → ltS x.1 key = false) : posK l key = i :=
  BsRel.pos (l := l) ⟨Nat.le_refl _, hi, h1, fun k x hk hx => by
    rcases Nat.eq_or_lt_of_le hk with rfl | hlt
    · exact h2 x hx
    · obtain ⟨y, hy⟩ : ∃ y, l[i]? = some y := ⟨_, List.getElem?_eq_getElem (by have := (List.getElem?_eq_some_iff.1 hx).1; omega)⟩
      cases hc : ltS x.1 key with
      | false => rfl
      | true =>
        have := ltS_trans (h.asc i k y x hy hx hlt) hc
        rw [h2 y hy] at this; cases this⟩
def LtUpto (l : List PR) (key : ByteArray) (i : Nat) : Prop := ∀ j x, j < i → l[j]? = some x → ltS x.1 key = true
theorem LtUpto.succ {l : List PR} {key : ByteArray} {i : Nat} {x : PR} (h : LtUpto l key i) (hx : l[i]? = some x) (hl : ltS x.1 key = true) : LtUpto l key (i + 1) := fun j y hj hy => by
  rcases Nat.lt_succ_iff_lt_or_eq.1 hj with h' | h'
  · exact h j y h' hy
  · subst h'; rw [hx] at hy; rw [← Option.some.inj hy]; exact hl

set_option maxRecDepth 20000 in
set_option maxHeartbeats 8000000 in
theorem rput_any (v : Value) (l : List PR) (k u : ByteArray) (B : Nat) (w : World) (hown : OwnP w B v l) (hpw : PW l) (hn : l.length ≤ 1000) (hB : B ≤ w.heap.size) :
    Calls Tryd.prog 35 #[v, .agg #[.string k, .string u]] w fun e w' => ∃ v', e = .returned v' ∧ OwnP w' B v' (insP l (posK l k) (k, u)) ∧ Below B w w' ∧ InsF w v w' v' := by
  obtain ⟨A, c, hv, hc, hpl⟩ := hown.ret gP_len
  have HIN := Lib.hid (fun i w1 vb h1 h2 h3 h4 h5 => insertK_any v l i (k, u) w1 B vb h1 h2 h3 h4 h5 (by omega))
  have HAT := Lib.hid (fun i h1 h2 h3 => pos_at (l := l) (key := k) (i := i) hpw h1 h2 h3)
  have HO := Lib.hid hown
  have HP := Lib.hid hpl
  have HBZ := Lib.hid hB
  subst hv
  obtain ⟨pk, hpk⟩ : ∃ pk, posK l k = pk := ⟨_, rfl⟩
  have HPK := Lib.hid hpk
  rw [hpk]
  clear hown hpl hpw hpk hB
  go_enter Tryd.func35, Tryd.ntmps35
  go_upto_region 1 with fail
  refine name_world (C := fun w1 => Code.wp _ _ _ _ w1) (w.alloc (.cells #[.string k, .string u] 35)) ?_
  intro w1 hw1
  have hb1 : Below w.heap.size w w1 := by rw [hw1]; exact S2.below_new w _
  have V_w1 : Hid (BK 35 w1 w.heap.size (gP (k, u))) := Lib.hid (by rw [hw1]; exact BK.new w _ _)
  have P_w1 : Hid (PL w1 w1.heap.size A l) := Lib.hid (GL.step HP.out hb1)
  have O_w1 : Hid (OwnP w1 B (.slice A l.length c) l) := Lib.hid (HO.out.step hb1)
  have B_w1 : Hid (Below B w w1) := Lib.hid (hb1.mono HBZ.out)
  have Z_w1 : Hid (B ≤ w1.heap.size) := Lib.hid (Nat.le_trans HBZ.out hb1.size)
  have Y_w1 : Hid (w.heap.size < w1.heap.size) := Lib.hid V_w1.out.lt
  have HB1 := Lib.hid hb1
  clear hw1 hb1
  go_wp2
  go_loopg [5] l.length (fun g v5 wr => ∃ i : Nat, i + g = l.length ∧ v5 = .int .i64 i ∧ LtUpto l k i ∧ Below w1.heap.size w1 wr)
  case atStart => exact ⟨0, by omega, rfl, fun _ _ h => absurd h (Nat.not_lt_zero _), Below.refl _ _⟩
  case round =>
    obtain ⟨i, hig, rfl, hlt, hbr⟩ := hrel
    have HL := Lib.hid hlt
    have HG := Lib.hid hig
    have HBR := Lib.hid hbr
    have P_wr : Hid (PL wr wr.heap.size A l) := Lib.hid (GL.step P_w1.out hbr)
    have V_wr : Hid (BK 35 wr w.heap.size (gP (k, u))) := Lib.hid (V_w1.out.step hbr)
    have d0 : wr.cell? ⟨w.heap.size, 0, none⟩ = some (.string k) := V_wr.out.cell 0 rfl
    clear hlt hbr
    by_cases hgo : ∃ x, l[i]? = some x ∧ ltS x.1 k = true
    · obtain ⟨x, hx, hl1⟩ := hgo
      have hil := (List.getElem?_eq_some_iff.1 hx).1
      obtain ⟨g, rfl⟩ : ∃ g, gk = g + 1 := ⟨gk - 1, by omega⟩
      have e3 : decide ((i : Int) < (l.length : Int)) = true := decide_eq_true (by omega)
      obtain ⟨b, o, hA, hbB, kk, kv⟩ := PL.at_ P_wr.out hx
      subst hA
      have j1 : (0 : Int) ≤ (i : Int) := by omega
      have j2 : (i : Int) < (l.length : Int) := by omega
      have q1 : Op.bytesLess x.1.toList k.toList = true := by rw [lt_data, hl1]
      have HS2 := Lib.hid (HL.out.succ hx hl1)
      obtain ⟨wo, rfl⟩ : ∃ wo : World, wo = wr := ⟨_, rfl⟩
      clear hx hl1 hil hig hbB kv
      go_wp2
      go_quiet (fail)
      go_wp2
      go_roundg g
      case measure => omega
      case rel => exact ⟨i + 1, by have := HG.out; omega, by go_num, HS2.out, stepB HBR.out (S1.below_draw _ _)⟩
    · have hil : i ≤ l.length := by omega
      have hpk : pk = i := by
        rw [← HPK.out]
        refine HAT.out i hil HL.out fun x hx => ?_
        cases hc : ltS x.1 k with
        | false => rfl
        | true => exact absurd ⟨x, hx, hc⟩ hgo
      subst hpk
      obtain ⟨wo, rfl⟩ : ∃ wo : World, wo = wr := ⟨_, rfl⟩
      have FIN : ∀ wq, Below wo.heap.size wo wq → ∃ wv, wv = wq.alloc (.cells #[.string k, .string u] 35) ∧ Below w.heap.size w wv ∧ OwnP wv B (.slice A l.length c) l ∧ VB wv wq.heap.size (k, u) ∧ (∀ q n c', (Value.slice A l.length c) = .slice (some ⟨q, 0, none⟩) n c' → wq.heap.size ≠ q) ∧ B ≤ wv.heap.size ∧ Below B w wv := fun wq hb => by
        have hb2 := stepB HBR.out hb
        have hb3 : Below wq.heap.size wq (wq.alloc (.cells #[.string k, .string u] 35)) := S2.below_new _ _
        have ho := O_w1.out.step hb2
        refine ⟨_, rfl, stepB HB1.out (stepB hb2 hb3), ho.step hb3, BK.new _ _ _, fun q n c' e => ?_, ?_, B_w1.out.trans ((stepB hb2 hb3).mono Z_w1.out)⟩
        · have := ownG_lt ho q n c' e
          omega
        · have := Z_w1.out; have := hb2.size; have := hb3.size; omega
      have HF := Lib.hid FIN
      have d1 : wo.cell? ⟨w.heap.size, 1, none⟩ = some (.string u) := V_wr.out.cell 1 rfl
      clear FIN
      cases gk with
      | zero =>
        obtain rfl : pk = l.length := by omega
        have e3 : decide ((l.length : Int) < (l.length : Int)) = false := decide_eq_false (by omega)
        clear hgo hil hig
        go_wp2
        go_quiet (fail)
        go_wp2_with fail
        obtain ⟨wv, hwv, f0, f1, f2, f3, f4, f5⟩ := HF.out (wo.drewN nq) ⟨rfl, rfl, rfl, Nat.le_refl _, fun _ _ => rfl⟩
        rw [← hwv]
        have F5 := Lib.hid f5
        have F0 := Lib.hid f0
        refine (HIN.out l.length wv _ f1 f2 f3 f4 (Nat.le_refl _)).mono ?_
        rintro e w5 ⟨v5, rfl, hown, hb, hins⟩
        have OW := Lib.hid hown
        have BW : Hid (Below B w w5) := Lib.hid (F5.out.trans hb)
        have IW : Hid (InsF w (.slice A l.length c) w5 v5) := Lib.hid (fun b hb2 hn2 => by
          obtain ⟨h1, h2⟩ := hins b (Nat.lt_of_lt_of_le hb2 F0.out.size) hn2
          exact ⟨h1.trans (F0.out.block b hb2), h2⟩)
        clear hb hown hins hwv f0 f1 f2 f3 f4 f5
        go_wp2
        go_ret
        exact ⟨_, rfl, OW.out, BW.out, IW.out⟩
      | succ g =>
        have hil2 : pk < l.length := by omega
        obtain ⟨x, hx⟩ : ∃ x, l[pk]? = some x := ⟨_, List.getElem?_eq_getElem hil2⟩
        have hl1 : ltS x.1 k = false := by
          cases hc : ltS x.1 k with
          | false => rfl
          | true => exact absurd ⟨x, hx, hc⟩ hgo
        have HIL := Lib.hid hil
        have e3 : decide ((pk : Int) < (l.length : Int)) = true := decide_eq_true (by omega)
        obtain ⟨b, o, hA, hbB, kk, kv⟩ := PL.at_ P_wr.out hx
        subst hA
        have j1 : (0 : Int) ≤ (pk : Int) := by omega
        have j2 : (pk : Int) < (l.length : Int) := by omega
        have q1 : Op.bytesLess x.1.toList k.toList = false := by rw [lt_data, hl1]
        clear hgo hil hil2 hig hx hl1 hbB kv
        go_wp2
        go_quiet (fail)
        go_wp2_with fail
        obtain ⟨wv, hwv, f0, f1, f2, f3, f4, f5⟩ := HF.out (wo.drewN nq) ⟨rfl, rfl, rfl, Nat.le_refl _, fun _ _ => rfl⟩
        rw [← hwv]
        have F5 := Lib.hid f5
        have F0 := Lib.hid f0
        refine (HIN.out pk wv _ f1 f2 f3 f4 HIL.out).mono ?_
        rintro e w5 ⟨v5, rfl, hown, hb, hins⟩
        have OW := Lib.hid hown
        have BW : Hid (Below B w w5) := Lib.hid (F5.out.trans hb)
        have IW : Hid (InsF w (.slice (some ⟨b, o, none⟩) l.length c) w5 v5) := Lib.hid (fun b' hb2 hn2 => by
          obtain ⟨h1, h2⟩ := hins b' (Nat.lt_of_lt_of_le hb2 F0.out.size) hn2
          exact ⟨h1.trans (F0.out.block b' hb2), h2⟩)
        clear hb hown hins hwv f0 f1 f2 f3 f4 f5
        go_wp2
        go_ret
        exact ⟨_, rfl, OW.out, BW.out, IW.out⟩

end Go.Proofs.YthpplhhlhheopabDoor
