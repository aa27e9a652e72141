/-
  What dead's with answers: the properties with a mark's two. Conditions: the list keeps the rules; the two values fit.
-/
import Derived.Test.YthpplhhlhheopabGreatDoorDzD
import Derived.Test.YthpplhhlhheopabGreatDoorSet
namespace Go.Proofs.YthpplhhlhheopabGreatDoor
open Go.RowKit
open S2 (BK Put)

theorem deleteF_nil (q : List PR) (gq sb sc : Nat) (T : TypeId) (w : World) (hqn : q.length ≤ 1000) (hq : CapQ T w gq sb sc q) :
    Calls Tryz.prog 35 #[.slice none 0 0, .func (.func 37) #[] #[.pointer (some ⟨gq, 0, none⟩)]] w fun e w' => e = .returned (.slice none 0 0) ∧ Below w.heap.size w w' := by
  have HIX := Lib.hid (idxD_any none 0 [] q gq sb sc T w (GL.nil _ _ _) (by simp) hqn hq)
  clear hq hqn
  unfold gone at HIX
  go_enter Tryz.func35, Tryz.ntmps35
  go_wp2_with fail
  refine HIX.out.mono ?_
  rintro e w1 ⟨rfl, hb⟩
  have HB := Lib.hid hb
  clear hb
  go_wp2_with fail
  go_ret
  exact ⟨rfl, HB.out⟩
theorem deleteO_any (v : Value) (xs q : List PR) (gq sb sc : Nat) (T : TypeId) (w : World) (B : Nat) (hown : OwnP w B v xs) (hn : xs.length ≤ 1000000) (hqn : q.length ≤ 1000) (hq : CapQ T w gq sb sc q) (h1 : gq < B) (h2 : sb < B) (hB : B ≤ w.heap.size) :
    Calls Tryz.prog 35 #[v, .func (.func 37) #[] #[.pointer (some ⟨gq, 0, none⟩)]] w fun e w' => ∃ v', e = .returned v' ∧ OwnP w' B v' (xs.filter (kpQ q)) ∧ Below B w w' := by
  obtain ⟨A, c, hv, hc, hpl⟩ := hown.ret gP_len
  rcases own_rowG hown with ⟨hv2, h0⟩ | ⟨g, cap, sp, hv2, hg0, hBK, hnc, hcm, hcs⟩
  · subst h0
    subst hv2
    exact (deleteF_nil q gq sb sc T w hqn hq).mono fun e w' h => ⟨_, h.1, OwnG.nil _ _, h.2.mono hB⟩
  · subst hv2
    simp only [Value.slice.injEq, true_and] at hv
    obtain ⟨rfl, rfl⟩ := hv
    refine (deleteF_any g cap xs sp q gq sb sc T w hBK hnc hcs hn hqn hpl hq (by omega) (by omega)).mono fun e w' h => ?_
    obtain ⟨sp', he, hk, hl, hkg⟩ := h
    exact ⟨_, he, row_ownG gP_len hg0 hk (by have := List.length_filter_le (kpQ q) xs; omega) hcm hl, hkg.below B w (Below.refl _ _) hg0⟩

/-- the two properties of a mark -/
def qm (d e : ByteArray) : List PR := [(kDeaths, d), (kDied, e)]
theorem kp_other (d e : ByteArray) : kpQ (qm d e) = otherP := by
  funext x
  unfold kpQ otherP qm
  rw [getR_cons, getR_cons, getR_nil]
  by_cases h1 : kDeaths = x.1
  · rw [if_pos h1]; simp [h1]
  · rw [if_neg h1]
    by_cases h2 : kDied = x.1
    · rw [if_pos h2]; simp [h2]
    · rw [if_neg h2]
      have n1 : x.1 ≠ kDeaths := fun h => h1 h.symm
      have n2 : x.1 ≠ kDied := fun h => h2 h.symm
      simp [n1, n2]
theorem PL.lower {w : World} {B B' sb : Nat} {q : List PR} (h : PL w B (some ⟨sb, 0, none⟩) q) (hb : sb < B') : PL w B' (some ⟨sb, 0, none⟩) q := fun hn => by
  obtain ⟨b, o, e, _, hc⟩ := h hn
  have e1 := e
  injection e1 with e1
  injection e1 with e1 _ _
  exact ⟨b, o, e, by omega, hc⟩
/-- the list in the k-th round -/
def stM (l : List PR) (d e : ByteArray) (k : Nat) : List PR := if k = 0 then keptP l else if k = 1 then setL (keptP l) kDeaths d else markP l d e
theorem stM_len {l : List PR} {d e : ByteArray} (h : propsR l = 0) (hd : d.size ≤ 160) (he : e.size ≤ 160) (k : Nat) : (stM l d e k).length ≤ 8 := by
  unfold stM
  split
  · exact (propsR_parts (kept_ok h)).1
  split
  · exact (propsR_parts (mark1_ok h hd)).1
  · exact (propsR_parts (markP_ok h hd he)).1
theorem stM_step {l : List PR} {d e : ByteArray} (h : propsR l = 0) (hd : d.size ≤ 160) (he : e.size ≤ 160) (k : Nat) (x : PR) (hx : (qm d e)[k]? = some x) : setR (stM l d e k) x.1 x.2 = (stM l d e (k + 1), 0) := by
  unfold qm at hx
  match k, hx with
  | 0, hx =>
    obtain rfl := Option.some.inj hx
    exact set1_eq h hd
  | 1, hx =>
    obtain rfl := Option.some.inj hx
    exact set2_eq h hd he
  | k + 2, hx => simp at hx
theorem take_own {w : World} {B : Nat} {v : Value} {xs : List PR} (h : OwnP w B v xs) (k : Nat) (hk : k ≤ xs.length) : ∃ A c, v = .slice A xs.length c ∧ k ≤ c ∧ OwnP w B (.slice A k c) (xs.take k) ∧ (Instr.slice 22 (.slice A xs.length c) none (some (.int .i64 (k : Int))) none).run Tryz.prog w = .ok (.slice A k c) w := by
  rcases own_rowG h with ⟨rfl, rfl⟩ | ⟨q, cap, sp, rfl, hb, hq, hnc, hcm, hl⟩
  · simp only [List.length_nil, Nat.le_zero] at hk
    subst hk
    refine ⟨none, 0, rfl, Nat.le_refl _, OwnG.nil _ _, ?_⟩
    have h := run_slice_h (P := Tryz.prog) w 22 none 0 0 undP .i64 0 (by omega) (by omega)
    rw [sizeOfP] at h
    simpa [Result.andThen, sliced] using h
  · have hkl : (xs.take k).length = k := by rw [List.length_take]; omega
    refine ⟨_, cap, rfl, by omega, ?_, cutHP q xs.length cap k (by omega) w⟩
    have e : xs.flatMap gP ++ sp = (xs.take k).flatMap gP ++ ((xs.drop k).flatMap gP ++ sp) := by rw [← List.append_assoc, ← List.flatMap_append, List.take_append_drop]
    have := row_ownG (e := 36) (xs := xs.take k) (sp := (xs.drop k).flatMap gP ++ sp) gP_len hb (by rw [← e]; exact hq) (by omega) hcm (by rw [← e]; exact hl)
    rw [hkl] at this
    exact this

set_option maxRecDepth 20000 in
set_option maxHeartbeats 8000000 in
theorem with_any (A : Option Addr) (c : Nat) (l : List PR) (sb sc : Nat) (d e : ByteArray) (w : World) (hsl : PL w w.heap.size A l) (hq : PL w w.heap.size (some ⟨sb, 0, none⟩) (qm d e)) (hp : propsR l = 0) (hd : d.size ≤ 160) (he : e.size ≤ 160) :
    Calls Tryz.prog 18 #[.slice A l.length c, .slice (some ⟨sb, 0, none⟩) 2 sc] w fun E w' => ∃ v, E = .returned v ∧ OwnP w' w.heap.size v (markP l d e) ∧ Below w.heap.size w w' := by
  have hl8 := (propsR_parts hp).1
  have hsb : sb < w.heap.size := hq.lt (show 0 < 2 by decide) sb 0 rfl
  have HST := Lib.hid (fun k => stM_len hp hd he k)
  have HSS := Lib.hid (fun k x hx => stM_step hp hd he k x hx)
  have HSL := Lib.hid hsl
  have HQ := Lib.hid hq
  have HSB := Lib.hid hsb
  have hmf : ∀ (fn : Fn) (first cap : Array Value) (w : World), (Instr.makeFunc fn first cap).run Tryz.prog w = .ok (.func fn first cap) w := fun _ _ _ _ => rfl
  have HCL := Lib.hid (fun w1 h => clone_any A c l w1 h (by omega))
  have HDL := Lib.hid (fun v gq w1 B h1 h2 h3 h4 h5 => deleteO_any v l (qm d e) gq sb sc 22 w1 B h1 (by omega) (show 2 ≤ 1000 by decide) h2 h3 h4 h5)
  rw [kp_other] at HDL
  have HFL : Hid ((l.filter otherP).take 6 = keptP l) := Lib.hid rfl
  have hfl : (l.filter otherP).length ≤ 8 := Nat.le_trans (List.length_filter_le _ _) hl8
  generalize l.filter otherP = F at HDL HFL hfl
  have HF8 := Lib.hid hfl
  clear hsl hq hp hd he hl8 hsb hfl
  go_enter Tryz.func18, Tryz.ntmps18
  go_upto_region 1 with fail
  refine name_world (C := fun w1 => Code.wp _ _ _ _ w1) (w.alloc (.cells [Value.slice (some ⟨sb, 0, none⟩) 2 sc].toArray 22)) ?_
  intro w1 hw1
  have hb1 : Below w.heap.size w w1 := by rw [hw1]; exact S2.below_new w _
  have B_w1 := Lib.hid hb1
  have C_w1 : Hid (CapQ 22 w1 w.heap.size sb sc (qm d e)) := Lib.hid ⟨by rw [hw1]; exact BK.new w _ _, GL.step HQ.out hb1⟩
  have P_w1 : Hid (PL w1 w1.heap.size A l) := Lib.hid (GL.step HSL.out hb1)
  have Z_w1 : Hid (w.heap.size < w1.heap.size) := Lib.hid C_w1.out.1.lt
  clear hw1 hb1
  go_wp2_with fail
  refine (HCL.out w1 P_w1.out).mono ?_
  rintro E w2 ⟨v2, rfl, hown, hb⟩
  have B_w2 := Lib.hid (stepB B_w1.out hb)
  have C_w2 := Lib.hid (C_w1.out.step hb)
  have O_w2 := Lib.hid hown
  have Y_w2 := Lib.hid hb.size
  clear hb hown
  go_wp2_with fail
  refine (HDL.out v2 w.heap.size w2 w1.heap.size O_w2.out C_w2.out Z_w1.out (by have := HSB.out; have := Z_w1.out; omega) Y_w2.out).mono ?_
  rintro E w3 ⟨v3, rfl, hown, hb⟩
  have B_w3 : Hid (Below w.heap.size w w3) := Lib.hid (B_w2.out.trans (hb.mono (Nat.le_of_lt Z_w1.out)))
  have C_w3 : Hid (CapQ 22 w3 w.heap.size sb sc (qm d e)) := Lib.hid ⟨C_w2.out.1.keep Z_w1.out hb, (GL.below (PL.lower C_w2.out.2 (by have := HSB.out; have := Z_w1.out; omega)) hb).more (Nat.le_trans Y_w2.out hb.size)⟩
  obtain ⟨k, hk⟩ : ∃ k : Nat, min (F.length : Int) 6 = (k : Int) := by
    by_cases h : (6 : Int) < (F.length : Int)
    · exact ⟨6, by omega⟩
    · exact ⟨F.length, by omega⟩
  have hk2 : k ≤ F.length := by omega
  have hk3 : F.take k = keptP l := by
    rw [← HFL.out]
    by_cases h : 6 < F.length
    · rw [show k = 6 by omega]
    · rw [List.take_of_length_le (by omega), List.take_of_length_le (by omega)]
  obtain ⟨A3, c3, hv3, hkc, hown3, hcut⟩ := take_own hown k hk2
  subst hv3
  rw [hk3] at hown3
  have hkl : (keptP l).length = k := by rw [← hk3, List.length_take]; omega
  have P_w3 : Hid (PL w3 w3.heap.size A3 (keptP l)) := Lib.hid (by
    obtain ⟨A4, c4, e4, _, h4⟩ := hown3.ret gP_len
    rw [hkl] at e4
    simp only [Value.slice.injEq, true_and] at e4
    obtain ⟨rfl, rfl⟩ := e4
    exact h4)
  have HKL := Lib.hid hkl
  have HKC := Lib.hid hcut
  have z0 : w3.cell? ⟨w.heap.size, 0, none⟩ = some (.slice (some ⟨sb, 0, none⟩) 2 sc) := C_w3.out.1.cell 0 rfl
  have s0 : (0 : Int) ≤ (k : Int) := by omega
  have s1 : (k : Int) ≤ (c3 : Int) := by omega
  have s2 : (k : Int) ≤ (F.length : Int) := by omega
  clear hb hown hown3 hk3 hk2
  go_upto_region 3 with fail
  obtain rfl : (keptP l).length = k := HKL.out
  clear hk s0 s1 s2 hcut hkc hkl
  go_wp2
  clear z0
  have S_w3 : Hid (PL w3 w3.heap.size (some ⟨sb, 0, none⟩) (qm d e)) := Lib.hid C_w3.out.2
  go_loopg [5, 22] 2 (fun g u v wr => ∃ (k : Nat) (A4 : Option Addr) (c4 : Nat), k + g = 2 ∧ v = .int .i64 k ∧ u = .slice A4 (stM l d e k).length c4 ∧ PL wr wr.heap.size A4 (stM l d e k) ∧ PL wr wr.heap.size (some ⟨sb, 0, none⟩) (qm d e) ∧ Below w.heap.size w wr ∧ (k = 2 → OwnP wr w.heap.size u (stM l d e k)))
  case atStart => exact ⟨0, A3, c3, by omega, rfl, rfl, P_w3.out, S_w3.out, B_w3.out, fun h => by cases h⟩
  case round =>
    obtain ⟨k, A4, c4, hkg, rfl, rfl, hpl, hql, hbw, hfin⟩ := hrel
    have HPL := Lib.hid hpl
    have HQL := Lib.hid hql
    have HBW := Lib.hid hbw
    have HFN := Lib.hid hfin
    have HG := Lib.hid hkg
    clear hpl hql hbw hfin P_w3 S_w3 B_w3 C_w3
    cases gk with
    | zero =>
      obtain rfl : k = 2 := by omega
      clear hkg
      go_wp2
      go_ret
      exact ⟨_, rfl, HFN.out (by first | exact rfl | trivial), HBW.out⟩
    | succ g =>
      obtain ⟨x, hx⟩ : ∃ x, (qm d e)[k]? = some x := ⟨_, List.getElem?_eq_getElem (by show k < 2; omega)⟩
      have e3 : decide ((k : Int) < 2) = true := decide_eq_true (by omega)
      have j1 : (0 : Int) ≤ (k : Int) := by omega
      have j2 : (k : Int) < 2 := by omega
      obtain ⟨b, o, hA, hbB, kk, kv⟩ := PL.at_ HQL.out hx
      injection hA with hA
      injection hA with hA1 hA2 _
      subst hA1
      subst hA2
      rw [Nat.zero_add] at kk kv
      have HSE := Lib.hid (HSS.out k x hx)
      have HCS := Lib.hid (fun w1 h => set_any A4 c4 (stM l d e k) x.1 x.2 w1 h)
      rw [HSE.out] at HCS
      unfold RetSet at HCS
      simp only at HCS
      have HK2 : Hid (k + 1 ≤ 2) := Lib.hid (by omega)
      clear hx hkg hbB HSE
      go_wp2_with fail
      refine (HCS.out _ (GL.step HPL.out ((Below.refl _ _).alloc (Nat.le_refl _) _))).mono ?_
      rintro E w5 ⟨v5, rfl, hown, hb⟩
      obtain ⟨A5, c5, rfl, _, hpl5⟩ := hown.ret gP_len
      have hb5 := stepB ((Below.refl _ wr).alloc (Nat.le_refl _) _) hb
      have HP5 := Lib.hid hpl5
      have HQ5 : Hid (PL w5 w5.heap.size (some ⟨sb, 0, none⟩) (qm d e)) := Lib.hid (GL.step HQL.out hb5)
      have HB5 : Hid (Below w.heap.size w w5) := Lib.hid (stepB HBW.out hb5)
      have HO5 : Hid (OwnP w5 w.heap.size (.slice A5 (stM l d e (k + 1)).length c5) (stM l d e (k + 1))) := Lib.hid (hown.weak (by have := HBW.out.size; simp; omega))
      clear hb hb5 hpl5 hown kk kv
      go_wp2
      go_roundg g
      case measure => omega
      case rel => exact ⟨k + 1, A5, c5, by have := HG.out; omega, by go_num, rfl, HP5.out, HQ5.out, HB5.out, fun _ => HO5.out⟩

end Go.Proofs.YthpplhhlhheopabGreatDoor
