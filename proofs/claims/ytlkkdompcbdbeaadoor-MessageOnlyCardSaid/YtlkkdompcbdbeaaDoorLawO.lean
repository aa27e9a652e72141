/-
  A message that was read was written: the bytes that Take reads are the message's own. Conditions: none.
  MessageOnly answers true, walked: what Take accepts is what Put writes of it, and what it does not accept gives nothing. Conditions: the tables of package unicode/utf8 are there; the bytes read as data.
-/
import Derived.Test.YtlkkdompcbdbeaaDoorLawB
namespace Go.Proofs.YtlkkdompcbdbeaaDoor
open Go.RowKit

theorem sNum_ez {l : List UInt8} {st : Int × Int} (h : (sNum l st).2.2 = 0) : st.2 = 0 := by
  unfold sNum at h
  split at h
  · exact h
  · omega
theorem sText_ez {l : List UInt8} {lim : Int} {st : Int × Int} (h : (sText l lim st).2.2 = 0) : st.2 = 0 := by
  unfold sText at h
  split at h
  · exact h
  · omega
theorem sCount_ez {l : List UInt8} {lim : Int} {st : Int × Int} (h : (sCount l lim st).2.2 = 0) : st.2 = 0 := by
  unfold sCount at h
  split at h
  · exact h
  · omega
theorem sBelow_ez {l : List UInt8} {m : Int} {st : Int × Int} (h : (sBelow l m st).2.2 = 0) : (sNum l st).2.2 = 0 ∧ ¬ ((sNum l st).1 < 0 ∨ m ≤ (sNum l st).1) ∧ sBelow l m st = sNum l st := by
  unfold sBelow at h ⊢
  split at h
  · simp at h
  · next h1 =>
    split at h
    · next h2 => exact absurd h h2
    · next h2 =>
      rw [if_neg h1, if_neg h2]
      exact ⟨h, fun hh => h1 ⟨h, hh⟩, rfl⟩
theorem sPropsF_ez {l : List UInt8} : ∀ (n : Nat) (st : Int × Int) (acc : List PR), (sPropsF l n st acc).2.2 = 0 → st.2 = 0 := by
  intro n
  cases n with
  | zero => intro st acc h; exact h
  | succ n =>
    intro st acc h
    rw [sPropsF] at h
    split at h
    · exact h
    · omega
theorem sNum_ok {l : List UInt8} {p : Nat} (h : (sNum l ((p : Int), 0)).2.2 = 0) : ∃ (n : Int) (j : Nat), sNum l ((p : Int), 0) = (n, (((p + j : Nat) : Int), 0)) ∧ 1 ≤ j ∧ p + j ≤ l.length ∧ (-9223372036854775808 ≤ n ∧ n ≤ 9223372036854775807) ∧ enc n = (l.drop p).take j := by
  unfold sNum at h ⊢
  rw [if_neg (by simp)] at h ⊢
  split at h
  · next h1 => exact absurd h h1
  · next h1 =>
    rw [if_neg h1]
    generalize hr : numR l (p : Int) = r at h1
    obtain ⟨n, nx, e⟩ := r
    obtain rfl : e = 0 := by dsimp only at h1; omega
    obtain ⟨k, j, a1, a2, a3, _, a5, a6, a7, a8⟩ := numR_ok hr
    obtain rfl : k = p := by omega
    exact ⟨n, j, by rw [a2], a3, a5, ⟨a6, a7⟩, a8⟩
theorem sText_ok {l : List UInt8} {p : Nat} {lim : Int} (h : (sText l lim ((p : Int), 0)).2.2 = 0) : ∃ (s : ByteArray) (j : Nat), sText l lim ((p : Int), 0) = (s, (((p + j : Nat) : Int), 0)) ∧ 1 ≤ j ∧ p + j ≤ l.length ∧ encT s = (l.drop p).take j := by
  unfold sText at h ⊢
  rw [if_neg (by simp)] at h ⊢
  split at h
  · next h1 => exact absurd h h1
  · next h1 =>
    rw [if_neg h1]
    generalize hr : textR l (p : Int) lim = r at h1
    obtain ⟨n, nx, e⟩ := r
    obtain rfl : e = 0 := by dsimp only at h1; omega
    obtain ⟨k, j, a1, a2, a3, a4, _, a6⟩ := textR_ok hr
    obtain rfl : k = p := by omega
    exact ⟨n, j, by rw [a2], a3, a4, a6⟩
theorem sCount_ok {l : List UInt8} {p : Nat} {lim : Int} (h : (sCount l lim ((p : Int), 0)).2.2 = 0) : ∃ (n j : Nat), sCount l lim ((p : Int), 0) = ((n : Int), (((p + j : Nat) : Int), 0)) ∧ 1 ≤ j ∧ p + j ≤ l.length ∧ enc n = (l.drop p).take j := by
  unfold sCount at h ⊢
  rw [if_neg (by simp)] at h ⊢
  split at h
  · next h1 => exact absurd h h1
  · next h1 =>
    rw [if_neg h1]
    generalize hr : countR l (p : Int) lim = r at h1
    obtain ⟨n, nx, e⟩ := r
    obtain rfl : e = 0 := by dsimp only at h1; omega
    obtain ⟨k, j, m, a1, a2, rfl, _, a4, _, a6, _, a8⟩ := countR_ok hr
    obtain rfl : k = p := by omega
    exact ⟨m, j, by rw [a2], a4, a6, a8⟩
theorem sPropsF_ok {l : List UInt8} : ∀ (n p : Nat) (acc : List PR), p ≤ l.length → (sPropsF l n ((p : Int), 0) acc).2.2 = 0 →
    ∃ (ys : List PR) (j : Nat), sPropsF l n ((p : Int), 0) acc = (acc ++ ys, (((p + j : Nat) : Int), 0)) ∧ ys.length = n ∧ p + j ≤ l.length ∧ encPs ys = (l.drop p).take j := by
  intro n
  induction n with
  | zero => intro p acc hp h; exact ⟨[], 0, by simp [sPropsF], rfl, by omega, by simp [encPs]⟩
  | succ n ih =>
    intro p acc hp h
    rw [sPropsF, if_neg (by simp)] at h ⊢
    have h2 := sPropsF_ez _ _ _ h
    have h1 := sText_ez h2
    obtain ⟨s, j, e1, _, b1, c1⟩ := sText_ok h1
    rw [e1] at h h2 ⊢
    dsimp only at h h2 ⊢
    obtain ⟨t, j', e2, _, b2, c2⟩ := sText_ok h2
    rw [e2] at h ⊢
    dsimp only at h ⊢
    obtain ⟨ys, j2, e3, b3, b4, c3⟩ := ih _ _ b2 h
    refine ⟨(s, t) :: ys, j + j' + j2, ?_, by simp [b3], by omega, ?_⟩
    · rw [e3]
      simp [Nat.add_assoc]
    · rw [encPs_cons, c1, c2, c3, take_join l (p + j) j' j2, take_join l p j (j' + j2), Nat.add_assoc]
theorem sMsg_only {l : List UInt8} (h : (sMsg l (0, 0)).2.2 = 0) : ∃ j : Nat, (sMsg l (0, 0)).2.1 = (j : Int) ∧ 9 ≤ j ∧ j ≤ l.length ∧ encM (sMsg l (0, 0)).1 = l.take j ∧ (sMsg l (0, 0)).1.fits := by
  unfold sMsg at h ⊢
  dsimp only at h ⊢
  have a9 := sPropsF_ez _ _ _ h
  have a8 := sCount_ez a9
  have a7 := sNum_ez a8
  have a6 := sText_ez a7
  have a5 := sNum_ez a6
  have a4 := sNum_ez a5
  obtain ⟨a4', hb, e4⟩ := sBelow_ez a4
  have a3 := sNum_ez a4'
  have a2 := sNum_ez a3
  have a1 := sText_ez a2
  rw [e4] at a5 a6 a7 a8 a9 h ⊢
  clear a4 e4
  obtain ⟨v1, j1, e1, _, b1, c1⟩ := sText_ok (p := 0) a1
  rw [show ((0 : Nat) : Int) = 0 from rfl] at e1
  simp only [e1] at a2 a3 a4' a5 a6 a7 a8 a9 h hb ⊢
  obtain ⟨v2, j2, e2, _, b2, c2⟩ := sText_ok a2
  simp only [e2] at a3 a4' a5 a6 a7 a8 a9 h hb ⊢
  obtain ⟨v3, j3, e3, _, b3, d3, c3⟩ := sNum_ok a3
  simp only [e3] at a4' a5 a6 a7 a8 a9 h hb ⊢
  obtain ⟨v4, j4, e4, _, b4, d4, c4⟩ := sNum_ok a4'
  simp only [e4] at a5 a6 a7 a8 a9 h hb ⊢
  obtain ⟨v5, j5, e5, _, b5, d5, c5⟩ := sNum_ok a5
  simp only [e5] at a6 a7 a8 a9 h ⊢
  obtain ⟨v6, j6, e6, _, b6, d6, c6⟩ := sNum_ok a6
  simp only [e6] at a7 a8 a9 h ⊢
  obtain ⟨v7, j7, e7, _, b7, c7⟩ := sText_ok a7
  simp only [e7] at a8 a9 h ⊢
  obtain ⟨v8, j8, e8, _, b8, d8, c8⟩ := sNum_ok a8
  simp only [e8] at a9 h ⊢
  obtain ⟨v9, j9, e9, _, b9, c9⟩ := sCount_ok a9
  simp only [e9] at h ⊢
  rw [Int.toNat_natCast] at h ⊢
  obtain ⟨ys, j, e10, hl, b10, c10⟩ := sPropsF_ok _ _ [] b9 h
  simp only [e10, List.nil_append] at h ⊢
  refine ⟨_, rfl, by omega, b10, ?_, d3, d5, d6, d8⟩
  have hv : (if decide (v4 = 1) = true then (1 : Int) else 0) = v4 := by
    by_cases h1 : v4 = 1
    · simp [h1]
    · have : v4 = 0 := by omega
      simp [this]
  unfold encM
  dsimp only
  rw [hv, hl, c1, c2, c3, c4, c5, c6, c7, c8, c9, c10]
  simp only [Nat.zero_add, List.drop_zero, ← List.take_add]

end Go.Proofs.YtlkkdompcbdbeaaDoor
namespace Go.Proofs.YtlkkdompcbdbeaaDoor
open Go.RowKit

theorem takeR_cases (l : List UInt8) : (∃ e : Int, takeR l 0 = (Msg.zero, 0, e) ∧ e ≠ 0) ∨ ∃ (m : Msg) (k : Nat), takeR l 0 = (m, (k : Int), 0) ∧ 9 ≤ k ∧ k ≤ l.length ∧ encM m = l.take k ∧ m.fits ∧ checkR m = 0 := by
  unfold takeR
  by_cases h : (sMsg l (0, 0)).2.2 ≠ 0
  · exact Or.inl ⟨_, by rw [if_pos h], h⟩
  rw [if_neg h]
  by_cases h2 : checkR (sMsg l (0, 0)).1 ≠ 0
  · exact Or.inl ⟨_, by rw [if_pos h2], by omega⟩
  rw [if_neg h2]
  obtain ⟨j, e1, e2, e3, e4, e5⟩ := sMsg_only (l := l) (by omega)
  exact Or.inr ⟨_, j, by rw [e1], e2, e3, e4, e5, by omega⟩
theorem same_head {A A' : Option Addr} (c c' : Nat) {T : List UInt8} {k : Nat} (hk : T.length = k) {w : World} {B B' : Nat} (h : CL bv w B A T) (h' : CL bv w B' A' T) :
    Calls Tryd.prog 28 #[.slice A k c, .slice A' k c'] w fun e w' => e = .returned (.bool true) ∧ Below w.heap.size w w' := by
  subst hk
  exact (same_self h h').mono fun e w' hh => ⟨hh.1, by rw [← hh.2]; exact Below.refl _ _⟩
set_option maxRecDepth 50000 in
set_option maxHeartbeats 16000000 in
theorem messageOnly_walk (A : Option Addr) (c : Nat) (l : List UInt8) (w : World) (hw : S1.Okw w) (hsl : CL bv w w.heap.size A l) (hc : l.length ≤ c) :
    Calls Tryd.prog 11 #[.slice A l.length c] w fun e w' => e = .returned (.bool true) ∧ Below w.heap.size w w' := by
  have HW := Lib.hid hw
  have HBw := Lib.hid (Below.refl w.heap.size w)
  by_cases h : 2400 < l.length
  · have d1 : decide ((2400 : Int) < (l.length : Int)) = true := decide_eq_true (by omega)
    clear hsl hc hw h
    go_enter Tryd.func11, Tryd.ntmps11
    go_wp2_with fail
    refine (awake5_any w (HW.out.step HBw.out)).mono ?_
    rintro e we ⟨rfl, hb⟩
    have HBe := Lib.hid (stepB HBw.out hb)
    go_wp2_with fail
    go_ret
    exact ⟨rfl, HBe.out⟩
  have d1 : decide ((2400 : Int) < (l.length : Int)) = false := decide_eq_false (by omega)
  have HT := Lib.hid (takeP_any A c l 0 ⟨by decide, by decide⟩ w hw hsl hc (by omega))
  rw [take_eq] at HT
  rcases takeR_cases l with ⟨er, h1, h2⟩ | ⟨m, k, h1, h9, hk, he, hf, hck⟩
  · rw [h1] at HT
    have q0 : (er != 0) = true := by simp [h2]
    clear h1 h2 hsl hc hw h
    go_enter Tryd.func11, Tryd.ntmps11
    go_wp2_with fail
    refine HT.out.mono ?_
    rintro e w1 ⟨A1, c1, rfl, _, hb⟩
    unfold msgV Msg.zero
    have HBw1 := Lib.hid hb
    clear hb HT
    go_wp2_with fail
    refine (same_any Msg.zero Msg.zero A1 none c1 0 _ (GL.nil _ _ _) (GL.nil _ _ _) (by decide)).mono ?_
    rintro e w2 ⟨rfl, hb⟩
    rw [show sameM Msg.zero Msg.zero = true by simp [sameM]]
    have HBw2 := Lib.hid (stepB (stepB HBw1.out ((Below.refl _ _).alloc (Nat.le_refl _) _)) hb)
    clear hb
    go_wp2_with fail
    refine (awake5_any w2 (HW.out.step HBw2.out)).mono ?_
    rintro e we ⟨rfl, hb⟩
    have HBe := Lib.hid (stepB HBw2.out hb)
    go_wp2_with fail
    go_ret
    exact ⟨rfl, HBe.out⟩
  rw [h1] at HT
  have q1 : decide ((k : Int) ≤ (l.length : Int)) = true := decide_eq_true (by omega)
  have q2 : decide ((9 : Int) ≤ (k : Int)) = true := decide_eq_true (by omega)
  obtain ⟨p1, p2, p3, p4⟩ := checkR_parts hck
  obtain ⟨_, _, p5⟩ := propsR_parts p4
  have p6 := (propsR_parts p4).1
  have htl : (l.take k).length = k := by rw [List.length_take]; omega
  have H1 : Hid (∀ w A1 c1, PL w w.heap.size A1 m.props → Calls Tryd.prog 29 #[.slice none 0 0, msgV m A1 c1] w fun e w' => ∃ A3 c3, e = .returned (.slice A3 k c3) ∧ CL bv w' w'.heap.size A3 (l.take k) ∧ Below w.heap.size w w') := Lib.hid (fun w A1 c1 h => by
    refine (put_any none 0 [] m A1 c1 w (CL.nil _ _ _) h hf ⟨by omega, by omega, by omega, by omega, fun x hx => by have h1 := keyR_len (p5 x hx).1; have h2 := (p5 x hx).2; omega⟩ (by decide)).mono ?_
    rintro e w' ⟨v, rfl, hown, hb⟩
    obtain ⟨A3, c3, rfl, _, h3⟩ := hown.ret
    rw [List.nil_append, he] at h3 ⊢
    rw [htl]
    exact ⟨A3, c3, rfl, h3, hb⟩)
  have H2 : Hid (∀ w A1 c1, S1.Okw w → PL w w.heap.size A1 m.props → Calls Tryd.prog 22 #[msgV m A1 c1] w fun e w' => e = .returned (.int .i64 0) ∧ Below w.heap.size w w') := Lib.hid (fun w A1 c1 h1 h2 => by
    have h3 := check_any m A1 c1 w h1 h2
    rw [hck] at h3
    exact h3)
  obtain ⟨A2, hs, hcl2⟩ := slice_h A c l k hk hc
  rw [htl] at hs
  have HCL := Lib.hid hcl2
  have HX := Lib.hid hsl
  have HTL := Lib.hid htl
  clear h1 he hf hck p1 p2 p3 p4 p5 p6 htl hcl2 hsl hc hw h
  go_enter Tryd.func11, Tryd.ntmps11
  go_wp2_with fail
  refine HT.out.mono ?_
  rintro e w1 ⟨A1, c1, rfl, hpl, hb⟩
  unfold msgV at H1 H2 ⊢
  obtain ⟨w2, hw2⟩ : ∃ w2, w2 = w1.alloc (.cells #[.string m.topic, .string m.payload, .int .i64 m.level, .bool m.retain, .int .i64 m.prio, .int .i64 m.exps, .string m.frm, .int .i64 m.seq, .slice A1 m.props.length c1] 36) := ⟨_, rfl⟩
  have hb2 : Below w1.heap.size w1 w2 := by rw [hw2]; exact (Below.refl _ _).alloc (Nat.le_refl _) _
  have HBw2 := Lib.hid (stepB hb hb2)
  have HPw2 := Lib.hid (hpl.step hb2)
  have HXw2 := Lib.hid ((HX.out.below HBw2.out).more HBw2.out.size)
  have HQw2 : Hid (MB w2 w1.heap.size [.string m.topic, .string m.payload, .int .i64 m.level, .bool m.retain, .int .i64 m.prio, .int .i64 m.exps, .string m.frm, .int .i64 m.seq, .slice A1 m.props.length c1]) := Lib.hid (by rw [hw2]; exact heap_alloc_new w1 _)
  have HW2 := Lib.hid hw2
  clear hpl hb hb2 hw2 HT HX HBw
  go_upto_region 6 with fail
  rw [← HW2.out]
  obtain ⟨wD, hwD⟩ : ∃ wD, wD = World.drew w2 := ⟨_, rfl⟩
  have hbD : Below w2.heap.size w2 wD := by rw [hwD]; exact (Below.refl _ _).drew
  have HBwD : Hid (Below w.heap.size w wD) := Lib.hid (stepB HBw2.out hbD)
  have HQwD : Hid (MB wD w1.heap.size [.string m.topic, .string m.payload, .int .i64 m.level, .bool m.retain, .int .i64 m.prio, .int .i64 m.exps, .string m.frm, .int .i64 m.seq, .slice A1 m.props.length c1]) := Lib.hid (MB.step HQw2.out hbD)
  have HPwD : Hid (PL wD wD.heap.size A1 m.props) := Lib.hid (HPw2.out.step hbD)
  have HXwD : Hid (CL bv wD wD.heap.size A l) := Lib.hid ((HXw2.out.below hbD).more hbD.size)
  clear HBw2 HQw2 HPw2 HXw2
  have hbd : (fun w' => MB w' w1.heap.size [.string m.topic, .string m.payload, .int .i64 m.level, .bool m.retain, .int .i64 m.prio, .int .i64 m.exps, .string m.frm, .int .i64 m.seq, .slice A1 m.props.length c1]) (World.drew w2) := by rw [← hwD]; exact HQwD.out
  have hSD : (fun w' => MB w' w1.heap.size [.string m.topic, .string m.payload, .int .i64 m.level, .bool m.retain, .int .i64 m.prio, .int .i64 m.exps, .string m.frm, .int .i64 m.seq, .slice A1 m.props.length c1]) wD := HQwD.out
  have HWD := Lib.hid hwD
  clear hwD hbD
  refine wp_region_held_drew (S := fun w' => MB w' w1.heap.size [.string m.topic, .string m.payload, .int .i64 m.level, .bool m.retain, .int .i64 m.prio, .int .i64 m.exps, .string m.frm, .int .i64 m.seq, .slice A1 m.props.length c1]) (by kernel_rfl) hbd (fun hHeld => ?_)
  rw [← HWD.out]
  clear hHeld
  have hHeld := hSD
  clear hSD hbd HWD
  refine wpAnyH_take (i := 0) (v := .int .i64 k) (get_ops _ _ _ rfl) (by kernel_rfl) (by kernel_rfl) (by kernel_rfl) (fun _ _ _ h => h) (Or.inl ⟨by rfl, fun w hSw => by (try dsimp only at hSw); go_simp⟩) hHeld ?_
  try simp only [Act.put, List.setIfInBounds_toArray, List.set_cons_zero, List.set_cons_succ]
  refine wpAnyH_take (i := 1) (v := .slice A l.length c) (get_ops _ _ _ rfl) (by kernel_rfl) (by kernel_rfl) (by kernel_rfl) (fun _ _ _ h => h) (Or.inl ⟨by rfl, fun w hSw => by (try dsimp only at hSw); go_simp⟩) hHeld ?_
  try simp only [Act.put, List.setIfInBounds_toArray, List.set_cons_zero, List.set_cons_succ]
  refine wpAnyH_take (i := 2) (v := .int .i64 l.length) (get_ops _ _ _ rfl) (by kernel_rfl) (by kernel_rfl) (by kernel_rfl) (fun _ _ _ h => h) (Or.inl ⟨by rfl, fun w hSw => by (try dsimp only at hSw); go_simp⟩) hHeld ?_
  try simp only [Act.put, List.setIfInBounds_toArray, List.set_cons_zero, List.set_cons_succ]
  refine wpAnyH_take (i := 3) (v := .bool true) (get_ops _ _ _ rfl) (by kernel_rfl) (by kernel_rfl) (by kernel_rfl) (fun _ _ _ h => h) (Or.inl ⟨by rfl, fun w hSw => by (try dsimp only at hSw); go_simp⟩) hHeld ?_
  try simp only [Act.put, List.setIfInBounds_toArray, List.set_cons_zero, List.set_cons_succ]
  refine wpAnyH_take (i := 4) (v := .bool true) (get_ops _ _ _ rfl) (by kernel_rfl) (by kernel_rfl) (by kernel_rfl) (fun _ _ _ h => h) (Or.inl ⟨by rfl, fun w hSw => by (try dsimp only at hSw); go_simp⟩) hHeld ?_
  try simp only [Act.put, List.setIfInBounds_toArray, List.set_cons_zero, List.set_cons_succ]
  refine wpAnyH_take (i := 5) (v := .int .i64 k) (get_ops _ _ _ rfl) (by kernel_rfl) (by kernel_rfl) (by kernel_rfl) (fun _ _ _ h => h) (Or.inl ⟨by rfl, fun w hSw => by (try dsimp only at hSw); go_simp⟩) hHeld ?_
  try simp only [Act.put, List.setIfInBounds_toArray, List.set_cons_zero, List.set_cons_succ]
  refine wpAnyH_take (i := 6) (v := .bool true) (get_ops _ _ _ rfl) (by kernel_rfl) (by kernel_rfl) (by kernel_rfl) (fun _ _ _ h => h) (Or.inl ⟨by rfl, fun w hSw => by (try dsimp only at hSw); go_simp⟩) hHeld ?_
  try simp only [Act.put, List.setIfInBounds_toArray, List.set_cons_zero, List.set_cons_succ]
  refine wpAnyH_take (i := 7) (v := .bool true) (get_ops _ _ _ rfl) (by kernel_rfl) (by kernel_rfl) (by kernel_rfl) (fun _ _ _ h => h) (Or.inl ⟨by rfl, fun w hSw => by (try dsimp only at hSw); go_simp⟩) hHeld ?_
  try simp only [Act.put, List.setIfInBounds_toArray, List.set_cons_zero, List.set_cons_succ]
  refine wpAnyH_take (i := 8) (v := .bool true) (get_ops _ _ _ rfl) (by kernel_rfl) (by kernel_rfl) (by kernel_rfl) (fun _ _ _ h => h) (Or.inl ⟨by rfl, fun w hSw => by (try dsimp only at hSw); go_simp⟩) hHeld ?_
  try simp only [Act.put, List.setIfInBounds_toArray, List.set_cons_zero, List.set_cons_succ]
  refine wpAnyH_take (i := 9) (v := .agg #[.string m.topic, .string m.payload, .int .i64 m.level, .bool m.retain, .int .i64 m.prio, .int .i64 m.exps, .string m.frm, .int .i64 m.seq, .slice A1 m.props.length c1]) (get_ops _ _ _ rfl) (by kernel_rfl) (by kernel_rfl) (by kernel_rfl) (fun _ _ _ h => h) (Or.inl ⟨by rfl, fun w hSw => by (try dsimp only at hSw); obtain ⟨c0, c1, c2, c3, c4, c5, c6, c7, c8⟩ := mb9 hSw; clear hSw; go_simp⟩) hHeld ?_
  try simp only [Act.put, List.setIfInBounds_toArray, List.set_cons_zero, List.set_cons_succ]
  refine wpAnyH_ready (rs := [10]) (by kernel_rfl) (by simp) ?_
  refine (AllReadyH.cons (get_ops _ _ _ rfl) (fun K hK => ?_) AllReadyH.nil)
  go_simp
  go_at_call 22
  refine (H2.out wD A1 c1 (HW.out.step HBwD.out) HPwD.out).mono ?_
  rintro e v16 ⟨rfl, hb⟩
  have HBv16 : Hid (Below w.heap.size w v16) := Lib.hid (stepB HBwD.out hb)
  have HQv16 : Hid (MB v16 w1.heap.size [.string m.topic, .string m.payload, .int .i64 m.level, .bool m.retain, .int .i64 m.prio, .int .i64 m.exps, .string m.frm, .int .i64 m.seq, .slice A1 m.props.length c1]) := Lib.hid (MB.step HQwD.out hb)
  have HPv16 : Hid (PL v16 v16.heap.size A1 m.props) := Lib.hid (HPwD.out.step hb)
  have HXv16 : Hid (CL bv v16 v16.heap.size A l) := Lib.hid ((HXwD.out.below hb).more hb.size)
  clear HBwD HQwD HPwD HXwD
  clear hHeld hb
  go_wp2_with fail
  refine hK.out _ _ HQv16.out (fun hHeld => ?_)
  clear hK K
  try simp only [Act.put, List.setIfInBounds_toArray, List.set_cons_zero, List.set_cons_succ]
  refine wpAnyH_take (i := 11) (v := .bool true) (get_ops _ _ _ rfl) (by kernel_rfl) (by kernel_rfl) (by kernel_rfl) (fun _ _ _ h => h) (Or.inl ⟨by rfl, fun w hSw => by (try dsimp only at hSw); go_simp⟩) hHeld ?_
  try simp only [Act.put, List.setIfInBounds_toArray, List.set_cons_zero, List.set_cons_succ]
  refine wpAnyH_take (i := 12) (v := .bool true) (get_ops _ _ _ rfl) (by kernel_rfl) (by kernel_rfl) (by kernel_rfl) (fun _ _ _ h => h) (Or.inl ⟨by rfl, fun w hSw => by (try dsimp only at hSw); go_simp⟩) hHeld ?_
  try simp only [Act.put, List.setIfInBounds_toArray, List.set_cons_zero, List.set_cons_succ]
  refine wpAnyH_take (i := 13) (v := .bool true) (get_ops _ _ _ rfl) (by kernel_rfl) (by kernel_rfl) (by kernel_rfl) (fun _ _ _ h => h) (Or.inl ⟨by rfl, fun w hSw => by (try dsimp only at hSw); go_simp⟩) hHeld ?_
  try simp only [Act.put, List.setIfInBounds_toArray, List.set_cons_zero, List.set_cons_succ]
  refine wpAnyH_take (i := 14) (v := .agg #[.string m.topic, .string m.payload, .int .i64 m.level, .bool m.retain, .int .i64 m.prio, .int .i64 m.exps, .string m.frm, .int .i64 m.seq, .slice A1 m.props.length c1]) (get_ops _ _ _ rfl) (by kernel_rfl) (by kernel_rfl) (by kernel_rfl) (fun _ _ _ h => h) (Or.inl ⟨by rfl, fun w hSw => by (try dsimp only at hSw); obtain ⟨c0, c1, c2, c3, c4, c5, c6, c7, c8⟩ := mb9 hSw; clear hSw; go_simp⟩) hHeld ?_
  try simp only [Act.put, List.setIfInBounds_toArray, List.set_cons_zero, List.set_cons_succ]
  refine wpAnyH_take (i := 16) (v := .slice A l.length c) (get_ops _ _ _ rfl) (by kernel_rfl) (by kernel_rfl) (by kernel_rfl) (fun _ _ _ h => h) (Or.inl ⟨by rfl, fun w hSw => by (try dsimp only at hSw); go_simp⟩) hHeld ?_
  try simp only [Act.put, List.setIfInBounds_toArray, List.set_cons_zero, List.set_cons_succ]
  refine wpAnyH_take (i := 17) (v := .int .i64 k) (get_ops _ _ _ rfl) (by kernel_rfl) (by kernel_rfl) (by kernel_rfl) (fun _ _ _ h => h) (Or.inl ⟨by rfl, fun w hSw => by (try dsimp only at hSw); go_simp⟩) hHeld ?_
  try simp only [Act.put, List.setIfInBounds_toArray, List.set_cons_zero, List.set_cons_succ]
  refine wpAnyH_take (i := 18) (v := .slice A2 k c) (get_ops _ _ _ rfl) (by kernel_rfl) (by kernel_rfl) (by kernel_rfl) (fun _ _ _ h => h) (Or.inl ⟨by rfl, fun w hSw => by (try dsimp only at hSw); go_simp⟩) hHeld ?_
  try simp only [Act.put, List.setIfInBounds_toArray, List.set_cons_zero, List.set_cons_succ]
  refine wpAnyH_ready (rs := [15]) (by kernel_rfl) (by simp) ?_
  refine (AllReadyH.cons (get_ops _ _ _ rfl) (fun K hK => ?_) AllReadyH.nil)
  go_simp
  go_at_call 29
  refine (H1.out v16 A1 c1 HPv16.out).mono ?_
  rintro e v17 ⟨A3, c3, rfl, h3, hb⟩
  have HBv17 : Hid (Below w.heap.size w v17) := Lib.hid (stepB HBv16.out hb)
  have HQv17 : Hid (MB v17 w1.heap.size [.string m.topic, .string m.payload, .int .i64 m.level, .bool m.retain, .int .i64 m.prio, .int .i64 m.exps, .string m.frm, .int .i64 m.seq, .slice A1 m.props.length c1]) := Lib.hid (MB.step HQv16.out hb)
  have HPv17 : Hid (PL v17 v17.heap.size A1 m.props) := Lib.hid (HPv16.out.step hb)
  have HXv17 : Hid (CL bv v17 v17.heap.size A l) := Lib.hid ((HXv16.out.below hb).more hb.size)
  clear HBv16 HQv16 HPv16 HXv16
  have HT3v17 := Lib.hid h3
  clear h3
  clear hHeld hb
  go_wp2_with fail
  refine hK.out _ _ HQv17.out (fun hHeld => ?_)
  clear hK K
  try simp only [Act.put, List.setIfInBounds_toArray, List.set_cons_zero, List.set_cons_succ]
  refine wpAnyH_ready (rs := [19]) (by kernel_rfl) (by simp) ?_
  refine (AllReadyH.cons (get_ops _ _ _ rfl) (fun K hK => ?_) AllReadyH.nil)
  go_simp
  go_at_call 28
  refine (same_head c3 c HTL.out HT3v17.out (HCL.out _ _ HXv17.out)).mono ?_
  rintro e v18 ⟨rfl, hb⟩
  have HBv18 : Hid (Below w.heap.size w v18) := Lib.hid (stepB HBv17.out hb)
  have HQv18 : Hid (MB v18 w1.heap.size [.string m.topic, .string m.payload, .int .i64 m.level, .bool m.retain, .int .i64 m.prio, .int .i64 m.exps, .string m.frm, .int .i64 m.seq, .slice A1 m.props.length c1]) := Lib.hid (MB.step HQv17.out hb)
  have HPv18 : Hid (PL v18 v18.heap.size A1 m.props) := Lib.hid (HPv17.out.step hb)
  have HXv18 : Hid (CL bv v18 v18.heap.size A l) := Lib.hid ((HXv17.out.below hb).more hb.size)
  have HT3v18 : Hid (CL bv v18 v18.heap.size A3 (l.take k)) := Lib.hid ((HT3v17.out.below hb).more hb.size)
  clear HBv17 HQv17 HPv17 HXv17 HT3v17
  clear hHeld hb
  go_wp2_with fail
  refine hK.out _ _ HQv18.out (fun hHeld => ?_)
  clear hK K
  try simp only [Act.put, List.setIfInBounds_toArray, List.set_cons_zero, List.set_cons_succ]
  refine wpAnyH_take (i := 20) (v := .bool true) (get_ops _ _ _ rfl) (by kernel_rfl) (by kernel_rfl) (by kernel_rfl) (fun _ _ _ h => h) (Or.inl ⟨by rfl, fun w hSw => by (try dsimp only at hSw); go_simp⟩) hHeld ?_
  try simp only [Act.put, List.setIfInBounds_toArray, List.set_cons_zero, List.set_cons_succ]
  refine wpAnyH_take (i := 21) (v := .bool true) (get_ops _ _ _ rfl) (by kernel_rfl) (by kernel_rfl) (by kernel_rfl) (fun _ _ _ h => h) (Or.inl ⟨by rfl, fun w hSw => by (try dsimp only at hSw); go_simp⟩) hHeld ?_
  try simp only [Act.put, List.setIfInBounds_toArray, List.set_cons_zero, List.set_cons_succ]
  refine wpAnyH_ready (rs := [22]) (by kernel_rfl) (by simp) ?_
  refine (AllReadyH.cons (get_ops _ _ _ rfl) (fun K hK => ?_) AllReadyH.nil)
  go_simp
  go_at_call 13
  refine (awake5_any v18 (HW.out.step HBv18.out)).mono ?_
  rintro e v19 ⟨rfl, hb⟩
  have HBv19 : Hid (Below w.heap.size w v19) := Lib.hid (stepB HBv18.out hb)
  have HQv19 : Hid (MB v19 w1.heap.size [.string m.topic, .string m.payload, .int .i64 m.level, .bool m.retain, .int .i64 m.prio, .int .i64 m.exps, .string m.frm, .int .i64 m.seq, .slice A1 m.props.length c1]) := Lib.hid (MB.step HQv18.out hb)
  have HPv19 : Hid (PL v19 v19.heap.size A1 m.props) := Lib.hid (HPv18.out.step hb)
  have HXv19 : Hid (CL bv v19 v19.heap.size A l) := Lib.hid ((HXv18.out.below hb).more hb.size)
  have HT3v19 : Hid (CL bv v19 v19.heap.size A3 (l.take k)) := Lib.hid ((HT3v18.out.below hb).more hb.size)
  clear HBv18 HQv18 HPv18 HXv18 HT3v18
  clear hHeld hb
  go_wp2_with fail
  refine hK.out _ _ HQv19.out (fun hHeld => ?_)
  clear hK K
  try simp only [Act.put, List.setIfInBounds_toArray, List.set_cons_zero, List.set_cons_succ]
  refine wpAnyH_take (i := 23) (v := .bool true) (get_ops _ _ _ rfl) (by kernel_rfl) (by kernel_rfl) (by kernel_rfl) (fun _ _ _ h => h) (Or.inl ⟨by rfl, fun w hSw => by (try dsimp only at hSw); go_simp⟩) hHeld ?_
  try simp only [Act.put, List.setIfInBounds_toArray, List.set_cons_zero, List.set_cons_succ]
  refine wpAnyH_take (i := 24) (v := .bool true) (get_ops _ _ _ rfl) (by kernel_rfl) (by kernel_rfl) (by kernel_rfl) (fun _ _ _ h => h) (Or.inl ⟨by rfl, fun w hSw => by (try dsimp only at hSw); go_simp⟩) hHeld ?_
  try simp only [Act.put, List.setIfInBounds_toArray, List.set_cons_zero, List.set_cons_succ]
  refine wpAnyH_done (by kernel_rfl) ?_ _
  go_wp2
  go_ret
  exact ⟨rfl, HBv19.out⟩

end Go.Proofs.YtlkkdompcbdbeaaDoor
