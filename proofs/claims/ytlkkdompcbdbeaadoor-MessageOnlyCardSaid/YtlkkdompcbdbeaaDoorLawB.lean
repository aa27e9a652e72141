/-
  Reading the bytes that a message was written to gives the message again. Conditions: the message keeps the rules; its numbers fit an int.
  MessageBack answers true, walked: Take gives back the message that Put wrote, whatever stands before and behind. Conditions: the tables of package unicode/utf8 are there; the bytes and the properties lie below the heap's end; the numbers and the lengths fit an int.
-/
import Derived.Test.YtlkkdompcbdbeaaDoorAwake5
namespace Go.Proofs.YtlkkdompcbdbeaaDoor
open Go.RowKit

theorem drop_app {l e r : List UInt8} {k : Nat} (hk : k ≤ l.length) (h : l.drop k = e ++ r) : k + e.length ≤ l.length ∧ l.drop (k + e.length) = r := by
  have h1 : (l.drop k).length = e.length + r.length := by rw [h, List.length_append]
  rw [List.length_drop] at h1
  refine ⟨by omega, ?_⟩
  rw [← List.drop_drop, h, List.drop_left]
theorem sText_enc {l r : List UInt8} {k : Nat} {s : ByteArray} {limit : Int} (hk : k ≤ l.length) (hl : (s.size : Int) ≤ limit) (hm : limit ≤ 256) (h : l.drop k = encT s ++ r) :
    sText l limit ((k : Int), 0) = (s, (((k + (encT s).length : Nat) : Int), 0)) := by
  unfold sText
  rw [if_neg (by simp), textR_enc hk (by omega) hl h]
  simp
theorem sNum_enc {l r : List UInt8} {k : Nat} {n : Int} (hk : k ≤ l.length) (h1 : -9223372036854775808 ≤ n) (h2 : n ≤ 9223372036854775807) (h : l.drop k = enc n ++ r) :
    sNum l ((k : Int), 0) = (n, (((k + (enc n).length : Nat) : Int), 0)) := by
  unfold sNum
  rw [if_neg (by simp), numR_enc hk h1 h2 h]
  simp
theorem sBelow_enc {l r : List UInt8} {k : Nat} {n : Int} (hk : k ≤ l.length) (h1 : 0 ≤ n) (h2 : n < 2) (h : l.drop k = enc n ++ r) :
    sBelow l 2 ((k : Int), 0) = (n, (((k + (enc n).length : Nat) : Int), 0)) := by
  unfold sBelow
  rw [sNum_enc hk (by omega) (by omega) h]
  rw [if_neg (by dsimp only; omega), if_neg (by simp)]
theorem sCount_enc {l r : List UInt8} {k n : Nat} {limit : Int} (hk : k ≤ l.length) (hn : (n : Int) ≤ limit) (hm : limit ≤ 256) (h : l.drop k = enc n ++ r) :
    sCount l limit ((k : Int), 0) = ((n : Int), (((k + (enc n).length : Nat) : Int), 0)) := by
  unfold sCount
  rw [if_neg (by simp), countR_enc hk (by omega) hn h]
  simp
theorem sPropsF_enc {l r : List UInt8} : ∀ (xs : List PR) (k : Nat) (acc : List PR), k ≤ l.length → (∀ x ∈ xs, okP x) → l.drop k = encPs xs ++ r →
    sPropsF l xs.length ((k : Int), 0) acc = (acc ++ xs, (((k + (encPs xs).length : Nat) : Int), 0)) := by
  intro xs
  induction xs with
  | nil => intro k acc _ _ _; simp [sPropsF, encPs]
  | cons x xs ih =>
    intro k acc hk hx h
    obtain ⟨hk1, hv1⟩ := hx x (by simp)
    have hks := (keyR_len hk1).2
    rw [encPs_cons, List.append_assoc, List.append_assoc] at h
    obtain ⟨b1, d1⟩ := drop_app hk h
    obtain ⟨b2, d2⟩ := drop_app b1 d1
    rw [List.length_cons, sPropsF, if_neg (by simp), sText_enc hk (by omega) (by omega) h]
    dsimp only
    rw [sText_enc b1 (by omega) (by omega) d1]
    dsimp only
    rw [ih _ _ b2 (fun y hy => hx y (by simp [hy])) d2]
    rw [encPs_cons]
    simp [List.length_append, Nat.add_assoc]
theorem validT_size {s : ByteArray} (h : ¬ validT s = false) : s.size ≤ 64 := by
  have h : validT s = true := by simpa using h
  unfold validT S1.T.validL S1.T.filterL at h
  simp only [Bool.and_eq_true, decide_eq_true_eq] at h
  have := h.1.1.1.2
  rw [show (S1.dl s).length = s.size from rfl] at this
  exact this
theorem nameR_size {s : ByteArray} (h : nameR s = true) : s.size ≤ 16 := by
  unfold nameR S1.T.nameL at h
  simp only [Bool.and_eq_true, decide_eq_true_eq] at h
  exact h.1.2
/-- what the rules say of a message -/
theorem checkR_parts {m : Msg} (h : checkR m = 0) : m.topic.size ≤ 64 ∧ m.payload.size ≤ 256 ∧ m.frm.size ≤ 16 ∧ propsR m.props = 0 := by
  unfold checkR at h
  split at h
  · omega
  next h1 =>
  split at h
  · omega
  next h2 =>
  split at h
  · omega
  split at h
  · omega
  split at h
  · omega
  next h5 =>
  split at h
  · omega
  refine ⟨validT_size h1, by omega, ?_, h⟩
  by_cases he : m.frm = ⟨#[]⟩
  · rw [he]; decide
  · have hn : nameR m.frm = true := by
      cases hn : nameR m.frm with
      | true => rfl
      | false => exact absurd ⟨he, hn⟩ h5
    exact nameR_size hn
theorem sMsg_enc {l r : List UInt8} {k : Nat} {m : Msg} (hk : k ≤ l.length) (hc : checkR m = 0) (hf : m.fits) (h : l.drop k = encM m ++ r) :
    sMsg l ((k : Int), 0) = (m, (((k + (encM m).length : Nat) : Int), 0)) := by
  obtain ⟨p1, p2, p3, p4⟩ := checkR_parts hc
  obtain ⟨q1, _, q3⟩ := propsR_parts p4
  obtain ⟨⟨f1, f2⟩, ⟨f3, f4⟩, ⟨f5, f6⟩, f7, f8⟩ := hf
  unfold encM at h
  simp only [List.append_assoc] at h
  obtain ⟨b1, d1⟩ := drop_app hk h
  obtain ⟨b2, d2⟩ := drop_app b1 d1
  obtain ⟨b3, d3⟩ := drop_app b2 d2
  obtain ⟨b4, d4⟩ := drop_app b3 d3
  obtain ⟨b5, d5⟩ := drop_app b4 d4
  obtain ⟨b6, d6⟩ := drop_app b5 d5
  obtain ⟨b7, d7⟩ := drop_app b6 d6
  obtain ⟨b8, d8⟩ := drop_app b7 d7
  obtain ⟨b9, d9⟩ := drop_app b8 d8
  have e1 := sText_enc (limit := 64) hk (by omega) (by omega) h
  have e2 := sText_enc (limit := 256) b1 (by omega) (by omega) d1
  have e3 := sNum_enc b2 f1 f2 d2
  have e4 := sBelow_enc b3 (by split <;> omega) (by split <;> omega) d3
  have e5 := sNum_enc b4 f3 f4 d4
  have e6 := sNum_enc b5 f5 f6 d5
  have e7 := sText_enc (limit := 16) b6 (by omega) (by omega) d6
  have e8 := sNum_enc b7 f7 f8 d7
  have e9 := sCount_enc (limit := 8) b8 (by omega) (by omega) d8
  have e10 := sPropsF_enc m.props _ [] b9 q3 d9
  unfold sMsg
  simp only [e1, e2, e3, e4, e5, e6, e7, e8, e9, Int.toNat_natCast, e10, List.nil_append]
  have hr : decide ((if m.retain = true then (1 : Int) else 0) = 1) = m.retain := by cases m.retain <;> simp
  rw [hr]
  unfold encM
  simp only [List.length_append, Nat.add_assoc]
theorem takeR_enc {l r : List UInt8} {k : Nat} {m : Msg} (hk : k ≤ l.length) (hc : checkR m = 0) (hf : m.fits) (h : l.drop k = encM m ++ r) :
    takeR l (k : Int) = (m, ((k + (encM m).length : Nat) : Int), 0) := by
  unfold takeR
  rw [sMsg_enc hk hc hf h]
  simp [hc]
theorem encM_small {m : Msg} (h : checkR m = 0) : (encM m).length ≤ 100000 := by
  obtain ⟨p1, p2, p3, p4⟩ := checkR_parts h
  obtain ⟨q1, _, q3⟩ := propsR_parts p4
  have h1 := encT_len m.topic
  have h2 := encT_len m.payload
  have h3 := encT_len m.frm
  have h4 := enc_len m.level
  have h5 := enc_len (if m.retain = true then 1 else 0)
  have h6 := enc_len m.prio
  have h7 := enc_len m.exps
  have h8 := enc_len m.seq
  have h9 := enc_len m.props.length
  have h10 := encPs_len m.props 160 (fun x hx => by have h1 := keyR_len (q3 x hx).1; have h2 := (q3 x hx).2; omega)
  have h11 : m.props.length * (20 + 2 * 160) ≤ 8 * (20 + 2 * 160) := Nat.mul_le_mul_right _ q1
  unfold encM
  simp only [List.length_append]
  omega

end Go.Proofs.YtlkkdompcbdbeaaDoor
namespace Go.Proofs.YtlkkdompcbdbeaaDoor
open Go.RowKit

set_option maxRecDepth 50000 in
set_option maxHeartbeats 16000000 in
theorem messageBack_walk (A0 : Option Addr) (c0 : Nat) (xs : List UInt8) (m : Msg) (A : Option Addr) (c : Nat) (A2 : Option Addr) (c2 : Nat) (zs : List UInt8) (w : World) (hw : S1.Okw w) (hx : CL bv w w.heap.size A0 xs) (hsl : PL w w.heap.size A m.props) (hz : CL bv w w.heap.size A2 zs) (hf : m.fits)
    (hsz : m.topic.size ≤ 9223372036854775807 ∧ m.frm.size ≤ 9223372036854775807 ∧ ∀ x ∈ m.props, x.1.size ≤ 9223372036854775807) :
    Calls Tryd.prog 10 #[.slice A0 xs.length c0, msgV m A c, .slice A2 zs.length c2] w fun e w' => e = .returned (.bool true) ∧ Below w.heap.size w w' := by
  have HC : Hid (∀ w, PL w w.heap.size A m.props → Calls Tryd.prog 23 #[msgV m A c] w fun e w' => e = .returned (.int .i64 (checkR m)) ∧ Below w.heap.size w w') := Lib.hid (fun w h2 => rCheck_any m A c w h2 (by omega) (by omega) (fun x hx => by have := hsz.2.2 x hx; omega))
  obtain ⟨w1, hw1⟩ : ∃ w1, w1 = w.alloc (.cells #[.string m.topic, .string m.payload, .int .i64 m.level, .bool m.retain, .int .i64 m.prio, .int .i64 m.exps, .string m.frm, .int .i64 m.seq, .slice A m.props.length c] 36) := ⟨_, rfl⟩
  have hb1 : Below w.heap.size w w1 := by rw [hw1]; exact (Below.refl _ _).alloc (Nat.le_refl _) _
  have HBw1 := Lib.hid hb1
  have HPw1 := Lib.hid (hsl.step hb1)
  have HXw1 : Hid (CL bv w1 w1.heap.size A0 xs) := Lib.hid ((hx.below hb1).more hb1.size)
  have HZw1 : Hid (CL bv w1 w1.heap.size A2 zs) := Lib.hid ((hz.below hb1).more hb1.size)
  have HQw1 : Hid (MB w1 w.heap.size [.string m.topic, .string m.payload, .int .i64 m.level, .bool m.retain, .int .i64 m.prio, .int .i64 m.exps, .string m.frm, .int .i64 m.seq, .slice A m.props.length c]) := Lib.hid (by rw [hw1]; exact heap_alloc_new w _)
  have HW1 := Lib.hid hw1
  have HW := Lib.hid hw
  clear hw hsl hx hz hb1 hw1 hsz
  by_cases hl : 2400 < xs.length
  · have d1 : decide ((2400 : Int) < (xs.length : Int)) = true := decide_eq_true (by omega)
    clear hl hf HC HXw1 HPw1 HZw1
    unfold msgV
    go_enter Tryd.func10, Tryd.ntmps10
    go_wp2_with fail
    rw [← HW1.out]
    refine (awake5_any w1 (HW.out.step HBw1.out)).mono ?_
    rintro e we ⟨rfl, hb⟩
    have HBe := Lib.hid (stepB HBw1.out hb)
    go_wp2_with fail
    go_ret
    exact ⟨rfl, HBe.out⟩
  have d1 : decide ((2400 : Int) < (xs.length : Int)) = false := decide_eq_false (by omega)
  by_cases hl2 : 2400 < zs.length
  · have d2 : decide ((2400 : Int) < (zs.length : Int)) = true := decide_eq_true (by omega)
    clear hl hl2 hf HC HXw1 HPw1 HZw1
    unfold msgV
    go_enter Tryd.func10, Tryd.ntmps10
    go_wp2_with fail
    rw [← HW1.out]
    refine (awake5_any w1 (HW.out.step HBw1.out)).mono ?_
    rintro e we ⟨rfl, hb⟩
    have HBe := Lib.hid (stepB HBw1.out hb)
    go_wp2_with fail
    go_ret
    exact ⟨rfl, HBe.out⟩
  have d2 : decide ((2400 : Int) < (zs.length : Int)) = false := decide_eq_false (by omega)
  by_cases hck : checkR m ≠ 0
  · have q1 : ((checkR m : Int) != 0) = true := by simp; omega
    clear hl hl2 hf HXw1 HZw1 hck
    unfold msgV at HC ⊢
    go_enter Tryd.func10, Tryd.ntmps10
    go_wp2_with fail
    rw [← HW1.out]
    refine (HC.out w1 HPw1.out).mono ?_
    rintro e w2 ⟨rfl, hb⟩
    have HBw2 := Lib.hid (stepB HBw1.out hb)
    clear hb
    go_wp2_with fail
    refine (awake5_any w2 (HW.out.step HBw2.out)).mono ?_
    rintro e we ⟨rfl, hb⟩
    have HBe := Lib.hid (stepB HBw2.out hb)
    go_wp2_with fail
    go_ret
    exact ⟨rfl, HBe.out⟩
  have hc0 : checkR m = 0 := by omega
  obtain ⟨p1, p2, p3, p4⟩ := checkR_parts hc0
  obtain ⟨q1, _, q3⟩ := propsR_parts p4
  have hpl : (encM m).length ≤ 100000 := encM_small hc0
  have H1 := Lib.hid (fun w h1 h2 => put_any A0 c0 xs m A c w h1 h2 hf ⟨by omega, by omega, by omega, by omega, fun x hx => by have h1 := keyR_len (q3 x hx).1; have h2 := (q3 x hx).2; omega⟩ (by omega))
  obtain ⟨U, hU⟩ : ∃ U, U = xs ++ encM m ++ zs := ⟨_, rfl⟩
  obtain ⟨N, hN⟩ : ∃ N : Int, N = ((xs.length + (encM m).length : Nat) : Int) := ⟨_, rfl⟩
  have hUl : U.length = xs.length + (encM m).length + zs.length := by rw [hU, List.length_append, List.length_append]
  have HT : Hid (∀ w A c, S1.Okw w → CL bv w w.heap.size A U → U.length ≤ c → Calls Tryd.prog 31 #[.slice A U.length c, .int .i64 xs.length] w fun e w' => ∃ A' c', e = .returned (.tuple #[msgV m A' c', .int .i64 N, .int .i64 0]) ∧ PL w' w'.heap.size A' m.props ∧ Below w.heap.size w w') := Lib.hid (fun w A c h1 h2 h3 => by
    refine (takeP_any A c U xs.length ⟨by omega, by omega⟩ w h1 h2 h3 (by omega)).mono ?_
    rintro e w' h
    rw [take_eq, takeR_enc (m := m) (r := zs) (by omega) hc0 hf (by rw [hU, List.append_assoc, List.drop_left]), ← hN] at h
    exact h)
  have q2 : ((U.length : Int) - (zs.length : Int)) = N := by omega
  have HN : Hid (0 ≤ N ∧ N ≤ 200000) := Lib.hid (by omega)
  have HL : Hid ((xs ++ encM m).length + zs.length ≤ 140737488355328) := Lib.hid (by rw [List.length_append]; omega)
  have H20 : Hid (m.props.length ≤ 9223372036854775806) := Lib.hid (by omega)
  have HU := Lib.hid hU
  rw [hc0] at HC
  have HQ2 := Lib.hid q2
  unfold RetB at H1
  generalize hTT : xs ++ encM m = T at H1 HU HL
  clear hl hl2 hck hc0 p1 p2 p3 p4 q1 q3 hpl hN hUl hf hU q2 hTT
  unfold msgV at HC H1 HT ⊢
  go_enter Tryd.func10, Tryd.ntmps10
  go_wp2_with fail
  rw [← HW1.out]
  refine (HC.out w1 HPw1.out).mono ?_
  rintro e w2 ⟨rfl, hb⟩
  have HBw2 := Lib.hid (stepB HBw1.out hb)
  have HPw2 := Lib.hid (HPw1.out.step hb)
  have HXw2 := Lib.hid ((HXw1.out.below hb).more hb.size)
  have HZw2 := Lib.hid ((HZw1.out.below hb).more hb.size)
  have HQw2 := Lib.hid (MB.step HQw1.out hb)
  clear hb HBw1 HPw1 HXw1 HZw1 HQw1 HW1 HC
  obtain ⟨k0, k1, k2, k3, k4, k5, k6, k7, k8⟩ := mb9 HQw2.out
  go_wp2_with fail
  clear k0 k1 k2 k3 k4 k5 k6 k7 k8 d1 d2
  refine (H1.out w2 HXw2.out HPw2.out).mono ?_
  rintro e w3 ⟨v3, rfl, hown, hb⟩
  have HO3 := Lib.hid hown
  have HB3 := Lib.hid hb
  have HZ3 := Lib.hid ((HZw2.out.below hb).more hb.size)
  clear hown hb H1
  go_wp2_with (at_builtin; go_must (refine wpList_appB w3 rfl _ _ rfl w2.heap.size v3 T zs A2 c2 rfl HO3.out rfl w3.heap.size HZ3.out w2 HB3.out HB3.out.size HL.out ?_); intro v4 w4 hown4 hb4 hsz4)
  rw [← HU.out] at hown4
  obtain ⟨A5, c5, rfl, hc5, hs5⟩ := hown4.ret
  have HB4 := Lib.hid (stepB HBw2.out hb4)
  have HP4 := Lib.hid (HPw2.out.step hb4)
  have HQ4 := Lib.hid (MB.step HQw2.out hb4)
  have HS5 := Lib.hid hs5
  have HC5 := Lib.hid hc5
  clear hown4 hb4 hsz4 hs5 hc5 HO3 HB3 HZ3 HBw2 HPw2 HXw2 HZw2 HQw2
  go_wp2_with fail
  refine (HT.out w4 A5 c5 (HW.out.step HB4.out) HS5.out HC5.out).mono ?_
  rintro e w5 ⟨A6, c6, rfl, hpl, hb⟩
  have hb6 : Below w5.heap.size w5 (w5.alloc (.cells #[.string m.topic, .string m.payload, .int .i64 m.level, .bool m.retain, .int .i64 m.prio, .int .i64 m.exps, .string m.frm, .int .i64 m.seq, .slice A6 m.props.length c6] 36)) := (Below.refl _ _).alloc (Nat.le_refl _) _
  obtain ⟨k0, k1, k2, k3, k4, k5, k6, k7, k8⟩ := mb9 (MB.step (MB.step HQ4.out hb) hb6)
  have HB6 := Lib.hid (stepB (stepB HB4.out hb) hb6)
  have HP6 := Lib.hid ((HP4.out.step hb).step hb6)
  have HR6 := Lib.hid (hpl.step hb6)
  clear hpl hb hb6 HT HS5 HC5 HB4 HP4 HQ4
  go_wp2_with fail
  clear k0 k1 k2 k3 k4 k5 k6 k7 k8
  refine (rSame_any m m A6 A c6 c _ HR6.out HP6.out H20.out).mono ?_
  rintro e w7 ⟨rfl, hb⟩
  rw [show sameM m m = true by simp [sameM]]
  have HB7 := Lib.hid (stepB HB6.out hb)
  clear hb HB6 HP6 HR6
  have hw3 : wrap64 ((U.length : Int) - (zs.length : Int)) = N := by rw [HQ2.out]; have := HN.out; exact wrap64_id N (by omega) (by omega)
  go_wp2_with fail
  refine (awake5_any w7 (HW.out.step HB7.out)).mono ?_
  rintro e w8 ⟨rfl, hb⟩
  have HB8 := Lib.hid (stepB HB7.out hb)
  go_wp2_with fail
  go_ret
  exact ⟨rfl, HB8.out⟩

end Go.Proofs.YtlkkdompcbdbeaaDoor
