/-
  What turned and plain of brokerlaw24 answer. Conditions: the library's bound on short texts holds a number; short texts.
-/
import Derived.Test.YtglnkpgdmophlaaGreatDoorEpY
namespace Go.Proofs.YtglnkpgdmophlaaGreatDoor
open Go.RowKit
open S2 (BK Put)

theorem rev_own {w : World} {B : Nat} {v : Value} {xs : List ByteArray} (h : OwnT w B v xs) (hn : xs.length ≤ 1000000) :
    Calls Tryz.prog 74 #[v] w fun e w' => e = .returned (.tuple #[]) ∧ OwnT w' B v xs.reverse ∧ Below B w w' := by
  by_cases h0 : xs.length = 0
  · obtain ⟨A, c, rfl, _⟩ := OwnG.ret gT_len h
    have hx : xs = [] := List.eq_nil_of_length_eq_zero h0
    subst hx
    refine (Tryz.slices_Reverse_string_empty A c w).mono ?_
    rintro e w' ⟨rfl, rfl⟩
    exact ⟨rfl, h, Below.refl _ _⟩
  · have h1 := ownT_iff.1 h
    rw [← strs_enc] at h1
    obtain ⟨g, cap, rfl, hb, hlt, hnc, hcm, hl, hH⟩ := Lib.holds_of_ownsRow h1 (fun e => by
      rw [e] at h1
      rcases h1.2 with ⟨_, h3⟩ | ⟨q, _, _, h3, _⟩
      · exact h0 h3
      · cases h3)
    have hc := Tryz.slices_Reverse_string g 0 cap (xs.map dl) w hH (by rw [List.length_map]; omega)
    rw [List.length_map] at hc
    refine hc.mono ?_
    rintro e w' ⟨rfl, q, rfl⟩
    have h2 := Lib.ownsRow_putRow (q := q) (ys := (xs.map dl).reverse) (k := xs.length) h1 (by simp) (Nat.le_refl _)
    rw [List.take_of_length_le (by simp)] at h2
    refine ⟨rfl, ?_, Lib.below_putRow (Below.refl B w) hb⟩
    rw [ownT_iff, ← strs_enc, List.length_reverse, List.map_reverse]
    exact h2
theorem split_own (s : ByteArray) (w : World) (hw : S1.Okw w) (hs : s.size < 4294967281) :
    Calls Tryz.prog 73 #[.string s, .string ⟨#[46]⟩] w fun e w' => ∃ v, e = .returned v ∧ OwnT w' w.heap.size v (wdB s) ∧ Below w.heap.size w w' := by
  obtain ⟨m, hm⟩ := hw
  refine (Tryz.strings_Split s ⟨#[46]⟩ m w hs hm (by decide)).mono ?_
  rintro e w' ⟨rfl, rfl⟩
  refine ⟨_, rfl, ?_, S2.below_new w _⟩
  rw [← wdB_len]
  have hN : (wdB s).length ≤ maxLen := by have := wdB_le s; unfold maxLen; omega
  refine row_ownG (q := w.heap.size) (cap := (wdB s).length) (sp := []) gT_len (Nat.le_refl _) ?_ (Nat.le_refl _) hN (by rw [List.append_nil, flat_str, List.length_map, Nat.mul_one])
  rw [List.append_nil, flat_str]
  exact BK.new w _ _
theorem join_own (A : Option Addr) (c : Nat) (xs : List ByteArray) (w : World) (h : TL w w.heap.size A xs) (hc : xs.length ≤ c) (hn : xs.length ≤ 1000000) (h0 : xs ≠ []) (hl : (W46.T.jn (xs.map dl)).length ≤ 1000000) :
    Calls Tryz.prog 75 #[.slice A xs.length c, .string ⟨#[46]⟩] w fun e w' => e = .returned (.string (bs (W46.T.jn (xs.map dl)))) ∧ Below w.heap.size w w' := by
  obtain ⟨b, o, rfl, hb, hcl⟩ := h (List.length_pos_iff.2 h0)
  have e : Lib.join (xs.map (·.data.toList)) [46] = W46.T.jn (xs.map dl) := W46.T.join_jn _
  have hq := Tryz.strings_Join b o c xs ⟨#[46]⟩ w (fun j x hx => by
    have := hcl j x 0 _ hx rfl
    rw [Nat.mul_one, Nat.add_zero] at this
    exact this) hb (by omega) hc (by show (Lib.join (xs.map (·.data.toList)) [46]).length ≤ _; rw [e]; omega)
  refine hq.mono ?_
  rintro e' w' ⟨rfl, hbl⟩
  refine ⟨?_, hbl⟩
  show Ending.returned (.string ⟨(Lib.join (xs.map (·.data.toList)) [46]).toArray⟩) = _
  rw [e]
  rfl
set_option maxHeartbeats 2000000 in
theorem turned_any (s : ByteArray) (w : World) (hw : S1.Okw w) (hs : s.size ≤ 1000) :
    Calls Tryz.prog 29 #[.string s] w fun e w' => e = .returned (.string (tnB s)) ∧ Below w.heap.size w w' := by
  have HS := Lib.hid (split_own s w hw (by omega))
  have HLN : Hid ((wdB s).length ≤ 1000000) := Lib.hid (by have := wdB_le s; omega)
  have HJ : Hid (∀ (A : Option Addr) (c : Nat) (w1 : World), TL w1 w1.heap.size A (wdB s).reverse → (wdB s).reverse.length ≤ c → Calls Tryz.prog 75 #[.slice A (wdB s).reverse.length c, .string ⟨#[46]⟩] w1 fun e w' => e = .returned (.string (tnB s)) ∧ Below w1.heap.size w1 w') := Lib.hid (fun A c w1 h hc => join_own A c _ w1 h hc (by rw [List.length_reverse]; exact HLN.out) (by
    intro h
    rw [List.reverse_eq_nil_iff] at h
    exact wdB_ne s h) (by
    have := tn_len s
    unfold tnB at this
    rw [dl_bs] at this
    rw [this, ← size_dl]
    omega))
  generalize tnB s = t at HJ ⊢
  generalize wdB s = xs at *
  obtain ⟨ys, hys⟩ : ∃ ys, xs.reverse = ys := ⟨_, rfl⟩
  rw [hys] at HJ
  have HYS := Lib.hid hys
  clear hw hs hys
  go_enter Tryz.func29, Tryz.ntmps29
  go_wp2_with fail
  refine HS.out.mono ?_
  rintro e w1 ⟨v, rfl, ho, hb⟩
  have B_w1 := Lib.hid hb
  have HR := Lib.hid (rev_own ho HLN.out)
  clear ho hb HS
  go_wp2_with fail
  refine HR.out.mono ?_
  rintro e w2 ⟨rfl, ho, hb⟩
  rw [HYS.out] at ho
  have B_w2 := Lib.hid (B_w1.out.trans hb)
  obtain ⟨A, c, hv, hc, hg⟩ := OwnG.ret gT_len ho
  subst hv
  have HJJ := Lib.hid (HJ.out A c w2 hg hc)
  clear ho hb HR hc hg B_w1
  go_wp2_with fail
  refine HJJ.out.mono ?_
  rintro e w3 ⟨rfl, hb⟩
  have B_w3 := Lib.hid (stepB B_w2.out hb)
  clear hb
  go_wp2_with fail
  go_ret
  exact ⟨rfl, B_w3.out⟩
set_option maxHeartbeats 2000000 in
theorem plain_any (s : ByteArray) (w : World) (hw : S1.Okw w) (hs : s.size ≤ 1000) :
    Calls Tryz.prog 30 #[.string s] w fun e w' => e = .returned (.bool (plR s)) ∧ Below w.heap.size w w' := by
  have HS := Lib.hid (fun w1 h => split_own s w1 h (by omega))
  have HLN : Hid ((wdB s).length ≤ 1000000) := Lib.hid (by have := wdB_le s; omega)
  have HC := Lib.hid (fun A c B x w1 h => hasT_any A c B (wdB s) x w1 h HLN.out)
  have HO := Lib.hid hw
  unfold plR
  obtain ⟨b1, hb1⟩ : ∃ b, ((wdB s).any fun a => decide (a = wordB)) = b := ⟨_, rfl⟩
  obtain ⟨b2, hb2⟩ : ∃ b, ((wdB s).any fun a => decide (a = hashB)) = b := ⟨_, rfl⟩
  have HC1 : Hid (∀ A c B w1, TL w1 B A (wdB s) → Calls Tryz.prog 36 #[.slice A (wdB s).length c, .string ⟨#[42]⟩] w1 fun e w' => e = .returned (.bool b1) ∧ w' = w1) := Lib.hid (fun A c B w1 h => by rw [← hb1]; exact HC.out A c B wordB w1 h)
  have HC2 : Hid (∀ A c B w1, TL w1 B A (wdB s) → Calls Tryz.prog 36 #[.slice A (wdB s).length c, .string ⟨#[35]⟩] w1 fun e w' => e = .returned (.bool b2) ∧ w' = w1) := Lib.hid (fun A c B w1 h => by rw [← hb2]; exact HC.out A c B hashB w1 h)
  rw [hb1, hb2]
  generalize wdB s = xs at *
  clear hw hs HC hb1 hb2
  go_enter Tryz.func30, Tryz.ntmps30
  go_wp2_with fail
  refine (HS.out _ HO.out).mono ?_
  rintro e w1 ⟨v, rfl, ho, hb⟩
  have B_w1 := Lib.hid hb
  have O_w1 := Lib.hid (HO.out.step hb)
  obtain ⟨A, c, hv, _, hg⟩ := OwnG.ret gT_len ho
  subst hv
  have HCC := Lib.hid (HC1.out A c _ w1 hg)
  clear ho hb hg HC1 HO
  go_wp2_with fail
  refine HCC.out.mono ?_
  rintro e w2 ⟨rfl, hw⟩
  have hw := hw.symm
  subst hw
  clear HCC
  cases b1 with
  | true =>
    go_wp2_with fail
    go_ret
    exact ⟨rfl, B_w1.out⟩
  | false =>
    go_wp2_with fail
    refine (HS.out _ O_w1.out).mono ?_
    rintro e w3 ⟨v, rfl, ho, hb⟩
    have B_w3 := Lib.hid (stepB B_w1.out hb)
    obtain ⟨A3, c3, hv, _, hg⟩ := OwnG.ret gT_len ho
    subst hv
    have HCC := Lib.hid (HC2.out A3 c3 _ w3 hg)
    clear ho hb hg HC2 B_w1 O_w1
    go_wp2_with fail
    refine HCC.out.mono ?_
    rintro e w4 ⟨rfl, hw⟩
    have hw := hw.symm
    subst hw
    clear HCC
    cases b2
    all_goals
      go_wp2_with fail
      go_ret
      exact ⟨rfl, B_w3.out⟩
end Go.Proofs.YtglnkpgdmophlaaGreatDoor
