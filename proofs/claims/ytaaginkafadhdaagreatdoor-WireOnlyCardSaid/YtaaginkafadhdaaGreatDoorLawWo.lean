/-
  WireOnly: what is accepted is the form of what is returned; the walk. Conditions: the bytes read as data; the tables read as the program's text lays them.
-/
import Derived.Test.YtaaginkafadhdaaGreatDoorAw7
import Derived.Test.YtaaginkafadhdaaGreatDoorSetR
namespace Go.Proofs.YtaaginkafadhdaaGreatDoor
open Go.RowKit

theorem Sm.mono {n m : Nat} {p : Pkt} (h : Sm n p) (hm : n ≤ m) : Sm m p := by
  obtain ⟨h1, h2, h3, h4, h5, h6, h7⟩ := h
  exact ⟨h1, h2, h3, h4, h5, fun x hx => Nat.le_trans (h6 x hx) hm, fun x hx => Nat.le_trans (h7 x hx) hm⟩
theorem decAllF_only {l : List UInt8} : ∀ (f k : Nat) (acc : List Pkt), k ≤ l.length → l.length < f + k → (∀ p ∈ acc, checkP p = 0 ∧ Sm 4096 p) → encG encB acc = l.take k → (decAllF f l k acc).2 = 0 →
    encG encB (decAllF f l k acc).1 = l ∧ ∀ p ∈ (decAllF f l k acc).1, checkP p = 0 ∧ Sm 4096 p
  | 0, k, acc, hk, hf, _, _, _ => by omega
  | f + 1, k, acc, hk, hf, hp, he, hz => by
    by_cases hlt : k < l.length
    · rw [decAllF, if_pos hlt] at hz ⊢
      generalize hr : textR l k 4096 = r at hz ⊢
      obtain ⟨s, nx, ec⟩ := r
      dsimp only at hz ⊢
      by_cases h1 : ec = 0
      · subst h1
        rw [if_neg (by simp)] at hz ⊢
        obtain ⟨k', j, e1, e2, j1, j2, s4, henc⟩ := textR_ok hr
        obtain rfl : k' = k := by omega
        subst e2
        generalize hd : decodeR (dl s) = d at hz ⊢
        obtain ⟨y, z⟩ := d
        dsimp only at hz ⊢
        by_cases h2 : z = 0
        · subst h2
          rw [if_neg (by simp)] at hz ⊢
          rw [Int.toNat_natCast] at hz ⊢
          obtain ⟨o1, o2⟩ := decodeR_only hd
          have hsm : Sm 4096 y := by
            have := decodeR_sm (dl s)
            rw [hd] at this
            exact this.mono (by rw [← size_dl]; omega)
          have hB : encB y = (l.drop k').take j := by
            unfold encB
            rw [o1, bs_dl]
            exact henc
          refine decAllF_only f (k' + j) (acc ++ [y]) j2 (by omega) (fun p h => ?_) ?_ hz
          · rcases List.mem_append.1 h with h | h
            · exact hp p h
            · rw [List.mem_singleton] at h
              subst h
              exact ⟨o2, hsm⟩
          · have e9 : encG encB (acc ++ [y]) = encG encB acc ++ encB y := by simp [encG]
            rw [e9, he, hB, ← List.take_add]
        · rw [if_pos h2] at hz
          exact absurd hz h2
      · rw [if_pos h1] at hz
        exact absurd hz h1
    · rw [decAllF_end hlt]
      obtain rfl : k = l.length := by omega
      exact ⟨by rw [he, List.take_length], hp⟩
theorem decAllR_only {l : List UInt8} {ys : List Pkt} (h : decAllR l = (ys, 0)) : encG encB ys = l ∧ ∀ p ∈ ys, checkP p = 0 ∧ Sm 4096 p := by
  unfold decAllR at h
  have := decAllF_only (l := l) (l.length + 1) 0 [] (Nat.zero_le _) (by omega) (by simp) (by simp [encG]) (by rw [h])
  rw [h] at this
  exact this
theorem encB_pos (p : Pkt) : 1 ≤ (encB p).length := by
  unfold encB encT
  rw [List.length_append]
  have := (enc_len (bs (encPk p)).size).1
  omega
theorem encG_pos : ∀ (ys : List Pkt), ys.length ≤ (encG encB ys).length
  | [] => Nat.zero_le _
  | p :: r => by
    rw [encG_cons, List.length_append, List.length_cons]
    have h1 := encB_pos p
    have h2 := encG_pos r
    omega

theorem sameT (A A' : Option Addr) (c c' : Nat) (X : List UInt8) (w : World) (h : CL bv w w.heap.size A X) (h' : CL bv w w.heap.size A' X) :
    Calls Tryz.prog 14 #[.slice A X.length c, .slice A' X.length c'] w fun e w' => e = .returned (.bool true) ∧ w = w' := by
  have := sameB_any A A' c c' X X w _ _ h h'
  rwa [decide_eq_true rfl] at this

set_option maxRecDepth 20000 in
set_option maxHeartbeats 4000000 in
theorem only_long (A : Option Addr) (c : Nat) (X : List UInt8) (W : World) (hw : S1.Okw W) (_hsl : CL bv W W.heap.size A X) (_hc : X.length ≤ c) (h : 5000 < X.length) : Calls Tryz.prog 8 #[.slice A X.length c] W fun e W' => e = .returned (.bool true) ∧ Below W.heap.size W W' := by
  have q0 : decide ((5000 : Int) < (X.length : Int)) = true := decide_eq_true (by omega)
  have HA := Lib.hid (awake7_any W hw)
  clear hw h
  go_enter Tryz.func8, Tryz.ntmps8
  go_wp2_with fail
  refine HA.out.mono ?_
  rintro e w1 ⟨rfl, hb⟩
  have HB := Lib.hid hb
  clear hb
  go_wp2_with fail
  go_ret
  exact ⟨rfl, HB.out⟩

set_option maxRecDepth 20000 in
set_option maxHeartbeats 8000000 in
theorem only_aa (A : Option Addr) (c : Nat) (X : List UInt8) (W : World) (hw : S1.Okw W) (hsl : CL bv W W.heap.size A X) (hc : X.length ≤ c) (hl : ¬ 5000 < X.length) (y : Pkt) (z : Int) (hy : decodeR X = (y, z)) (h1 : z = 0) (ys : List Pkt) (z2 : Int) (hys : decAllR X = (ys, z2)) (h2 : z2 = 0) : Calls Tryz.prog 8 #[.slice A X.length c] W fun e W' => e = .returned (.bool true) ∧ Below W.heap.size W W' := by
  have q0 : decide ((5000 : Int) < (X.length : Int)) = false := decide_eq_false (by omega)
  have HO := Lib.hid hw
  have HS0 := Lib.hid hsl
  have HD := Lib.hid (decode_any A c X W hw hsl hc (by omega))
  have HK := Lib.hid (fun w1 h1 h2 => decodeAll_any A c X w1 h1 h2 hc (by omega))
  rw [hy] at HD
  rw [hys] at HK
  subst h1
  obtain ⟨o1, o2⟩ := decodeR_only hy
  have HSM : Hid (Sm X.length y) := Lib.hid (by have := decodeR_sm X; rw [hy] at this; exact this)
  have HEQ : Hid (encodeR y = (X, 0)) := Lib.hid (by unfold encodeR; rw [if_neg (by simpa using o2), o1])
  have HL5 : Hid (X.length ≤ 5000) := Lib.hid (by omega)
  clear o1 o2
  subst h2
  obtain ⟨g1, g2⟩ := decAllR_only hys
  have HG2 := Lib.hid g1
  have HC2 := Lib.hid g2
  have HL2 : Hid (ys.length ≤ 5000) := Lib.hid (by have := encG_pos ys; rw [g1] at this; omega)
  clear g1 g2
  clear hw hsl hc hl hy hys
  go_enter Tryz.func8, Tryz.ntmps8
  go_wp2_with fail
  refine HD.out.mono ?_
  rintro e w1 ⟨a1, rfl, hp1, hb1⟩
  have HP1 := Lib.hid hp1
  have HB1 : Hid (Below W.heap.size W w1) := Lib.hid hb1
  have HS1 := Lib.hid (HS0.out.step hb1)
  clear hp1 hb1 HD HS0
  dsimp only at HP1
  go_upto_region 4 with (refine wpList_store_blkE (by rfl) 31 (.tmp 3) (.tmp 17) rfl rfl w1.heap.size 0 34 rfl (.agg (pkC y a1).toArray) rfl 31 (pkC Pkt.zero PA.zero) (pkC y a1) (zero_new w1) rfl rfl info33 (by rw [pkC_len]; decide) (one_cells rfl) ?_; rintro w2 hM he hbel hsz; have HM2 := Lib.hid (put_pk hM); have HB2x : Hid (Below w1.heap.size w1 w2) := Lib.hid (hbel _ _ (Nat.le_refl _) ((Below.refl _ _).alloc (Nat.le_refl _) _)); clear hM he hbel hsz)
  have HB2 : Hid (Below W.heap.size W w2) := Lib.hid (stepB HB1.out HB2x.out)
  have HS2 := Lib.hid (HS1.out.step HB2x.out)
  have HP2 : Hid (PIn w2 y a1) := Lib.hid (PInB.pin ((HP1.out.1.below HB2x.out).more HB2x.out.size))
  clear HP1 HS1 HB1 HB2x
  have HE2 := Lib.hid (encode_any y a1 w2 (HO.out.step HB2.out) HP2.out HSM.out.sz (HSM.out.tx (by have := HL5.out; omega)))
  rw [HEQ.out] at HE2
  unfold pkV at HE2
  clear HEQ HSM HP2 HL5
  go_wp2_with (refine wpList_load_all (by rfl) 31 (.tmp 3) rfl w1.heap.size rfl 31 _ (0, 0) _ HM2.out Tryz.underlying31 rfl info33 ?_)
  refine HE2.out.mono ?_
  rintro e w3 ⟨A3, c3, rfl, hs3, _, hb3⟩
  have HS3 := Lib.hid (HS2.out.step hb3)
  have HT3 := Lib.hid hs3
  have HB3 : Hid (Below W.heap.size W w3) := Lib.hid (stepB HB2.out hb3)
  clear hs3 hb3 HE2 HS2 HB2 HM2
  go_wp2_with fail
  refine (sameT A3 A c3 c X w3 HT3.out HS3.out).mono ?_
  rintro e w4 ⟨rfl, rfl⟩
  clear HT3
  go_wp2_with fail
  refine (HK.out w3 (HO.out.step HB3.out) HS3.out).mono ?_
  rintro e w5 ⟨A5, c5, xs, hxs, rfl, hk5, _, hb5⟩
  have HB5 : Hid (Below W.heap.size W w5) := Lib.hid (stepB HB3.out hb5)
  have HS5 := Lib.hid (HS3.out.step hb5)
  have HK5 := Lib.hid hk5
  have HX5 : Hid (xs.map Prod.fst = ys) := Lib.hid hxs
  have HE5 := Lib.hid (encodeAll_any A5 c5 xs w5 (HO.out.step HB5.out) HK5.out (by have := HL2.out; have e := congrArg List.length HX5.out; rw [List.length_map] at e; omega) (fun x hx => by have h := (HC2.out x.1 (by rw [← HX5.out]; exact List.mem_map_of_mem (f := Prod.fst) hx)).2; exact ⟨h.sz, h.tx (by decide)⟩))
  have HQ5 : Hid (encAllR (xs.map Prod.fst) = (X, 0)) := Lib.hid (by rw [HX5.out, encAllR_good (fun p hp => (HC2.out p hp).1), HG2.out])
  rw [HQ5.out] at HE5
  clear hxs hk5 hb5 HK HX5 HK5 HQ5 HS3 HB3
  go_wp2_with fail
  refine HE5.out.mono ?_
  rintro e w6 ⟨A6, c6, rfl, hs6, _, hb6⟩
  have HS6 := Lib.hid (HS5.out.step hb6)
  have HT6 := Lib.hid hs6
  have HB6 : Hid (Below W.heap.size W w6) := Lib.hid (stepB HB5.out hb6)
  clear hs6 hb6 HS5 HB5 HE5
  go_wp2_with fail
  refine (sameT A6 A c6 c X w6 HT6.out HS6.out).mono ?_
  rintro e w7 ⟨rfl, rfl⟩
  clear HS6 HT6
  go_wp2_with fail
  refine (awake7_any w6 (HO.out.step HB6.out)).mono ?_
  rintro e w8 ⟨rfl, hb8⟩
  have HB8 : Hid (Below W.heap.size W w8) := Lib.hid (stepB HB6.out hb8)
  clear hb8
  go_wp2_with fail
  go_ret
  exact ⟨rfl, HB8.out⟩

set_option maxRecDepth 20000 in
set_option maxHeartbeats 8000000 in
theorem only_ab (A : Option Addr) (c : Nat) (X : List UInt8) (W : World) (hw : S1.Okw W) (hsl : CL bv W W.heap.size A X) (hc : X.length ≤ c) (hl : ¬ 5000 < X.length) (y : Pkt) (z : Int) (hy : decodeR X = (y, z)) (h1 : z = 0) (ys : List Pkt) (z2 : Int) (hys : decAllR X = (ys, z2)) (h2 : z2 ≠ 0) : Calls Tryz.prog 8 #[.slice A X.length c] W fun e W' => e = .returned (.bool true) ∧ Below W.heap.size W W' := by
  have q0 : decide ((5000 : Int) < (X.length : Int)) = false := decide_eq_false (by omega)
  have HO := Lib.hid hw
  have HS0 := Lib.hid hsl
  have HD := Lib.hid (decode_any A c X W hw hsl hc (by omega))
  have HK := Lib.hid (fun w1 h1 h2 => decodeAll_any A c X w1 h1 h2 hc (by omega))
  rw [hy] at HD
  rw [hys] at HK
  subst h1
  obtain ⟨o1, o2⟩ := decodeR_only hy
  have HSM : Hid (Sm X.length y) := Lib.hid (by have := decodeR_sm X; rw [hy] at this; exact this)
  have HEQ : Hid (encodeR y = (X, 0)) := Lib.hid (by unfold encodeR; rw [if_neg (by simpa using o2), o1])
  have HL5 : Hid (X.length ≤ 5000) := Lib.hid (by omega)
  clear o1 o2
  have q3 : (z2 == 0) = false := by simp [h2]
  have q4 : decide (z2 = 0) = false := by simp [h2]
  clear hw hsl hc hl hy hys
  go_enter Tryz.func8, Tryz.ntmps8
  go_wp2_with fail
  refine HD.out.mono ?_
  rintro e w1 ⟨a1, rfl, hp1, hb1⟩
  have HP1 := Lib.hid hp1
  have HB1 : Hid (Below W.heap.size W w1) := Lib.hid hb1
  have HS1 := Lib.hid (HS0.out.step hb1)
  clear hp1 hb1 HD HS0
  dsimp only at HP1
  go_upto_region 4 with (refine wpList_store_blkE (by rfl) 31 (.tmp 3) (.tmp 17) rfl rfl w1.heap.size 0 34 rfl (.agg (pkC y a1).toArray) rfl 31 (pkC Pkt.zero PA.zero) (pkC y a1) (zero_new w1) rfl rfl info33 (by rw [pkC_len]; decide) (one_cells rfl) ?_; rintro w2 hM he hbel hsz; have HM2 := Lib.hid (put_pk hM); have HB2x : Hid (Below w1.heap.size w1 w2) := Lib.hid (hbel _ _ (Nat.le_refl _) ((Below.refl _ _).alloc (Nat.le_refl _) _)); clear hM he hbel hsz)
  have HB2 : Hid (Below W.heap.size W w2) := Lib.hid (stepB HB1.out HB2x.out)
  have HS2 := Lib.hid (HS1.out.step HB2x.out)
  have HP2 : Hid (PIn w2 y a1) := Lib.hid (PInB.pin ((HP1.out.1.below HB2x.out).more HB2x.out.size))
  clear HP1 HS1 HB1 HB2x
  have HE2 := Lib.hid (encode_any y a1 w2 (HO.out.step HB2.out) HP2.out HSM.out.sz (HSM.out.tx (by have := HL5.out; omega)))
  rw [HEQ.out] at HE2
  unfold pkV at HE2
  clear HEQ HSM HP2 HL5
  go_wp2_with (refine wpList_load_all (by rfl) 31 (.tmp 3) rfl w1.heap.size rfl 31 _ (0, 0) _ HM2.out Tryz.underlying31 rfl info33 ?_)
  refine HE2.out.mono ?_
  rintro e w3 ⟨A3, c3, rfl, hs3, _, hb3⟩
  have HS3 := Lib.hid (HS2.out.step hb3)
  have HT3 := Lib.hid hs3
  have HB3 : Hid (Below W.heap.size W w3) := Lib.hid (stepB HB2.out hb3)
  clear hs3 hb3 HE2 HS2 HB2 HM2
  go_wp2_with fail
  refine (sameT A3 A c3 c X w3 HT3.out HS3.out).mono ?_
  rintro e w4 ⟨rfl, rfl⟩
  clear HT3
  go_wp2_with fail
  refine (HK.out w3 (HO.out.step HB3.out) HS3.out).mono ?_
  rintro e w5 ⟨A5, c5, xs, hxs, rfl, hk5, _, hb5⟩
  have HB5 : Hid (Below W.heap.size W w5) := Lib.hid (stepB HB3.out hb5)
  clear hxs hk5 hb5 HK HS3 HB3
  go_wp2_with fail
  refine (awake7_any w5 (HO.out.step HB5.out)).mono ?_
  rintro e w8 ⟨rfl, hb8⟩
  have HB8 : Hid (Below W.heap.size W w8) := Lib.hid (stepB HB5.out hb8)
  clear hb8
  go_wp2_with fail
  go_ret
  exact ⟨rfl, HB8.out⟩

set_option maxRecDepth 20000 in
set_option maxHeartbeats 8000000 in
theorem only_ba (A : Option Addr) (c : Nat) (X : List UInt8) (W : World) (hw : S1.Okw W) (hsl : CL bv W W.heap.size A X) (hc : X.length ≤ c) (hl : ¬ 5000 < X.length) (y : Pkt) (z : Int) (hy : decodeR X = (y, z)) (h1 : z ≠ 0) (ys : List Pkt) (z2 : Int) (hys : decAllR X = (ys, z2)) (h2 : z2 = 0) : Calls Tryz.prog 8 #[.slice A X.length c] W fun e W' => e = .returned (.bool true) ∧ Below W.heap.size W W' := by
  have q0 : decide ((5000 : Int) < (X.length : Int)) = false := decide_eq_false (by omega)
  have HO := Lib.hid hw
  have HS0 := Lib.hid hsl
  have HD := Lib.hid (decode_any A c X W hw hsl hc (by omega))
  have HK := Lib.hid (fun w1 h1 h2 => decodeAll_any A c X w1 h1 h2 hc (by omega))
  rw [hy] at HD
  rw [hys] at HK
  have q1 : (z == 0) = false := by simp [h1]
  have q2 : decide (z = 0) = false := by simp [h1]
  subst h2
  obtain ⟨g1, g2⟩ := decAllR_only hys
  have HG2 := Lib.hid g1
  have HC2 := Lib.hid g2
  have HL2 : Hid (ys.length ≤ 5000) := Lib.hid (by have := encG_pos ys; rw [g1] at this; omega)
  clear g1 g2
  clear hw hsl hc hl hy hys
  go_enter Tryz.func8, Tryz.ntmps8
  go_wp2_with fail
  refine HD.out.mono ?_
  rintro e w1 ⟨a1, rfl, hp1, hb1⟩
  have HP1 := Lib.hid hp1
  have HB1 : Hid (Below W.heap.size W w1) := Lib.hid hb1
  have HS1 := Lib.hid (HS0.out.step hb1)
  clear hp1 hb1 HD HS0
  dsimp only at HP1
  go_upto_region 4 with (refine wpList_store_blkE (by rfl) 31 (.tmp 3) (.tmp 17) rfl rfl w1.heap.size 0 34 rfl (.agg (pkC y a1).toArray) rfl 31 (pkC Pkt.zero PA.zero) (pkC y a1) (zero_new w1) rfl rfl info33 (by rw [pkC_len]; decide) (one_cells rfl) ?_; rintro w2 hM he hbel hsz; have HM2 := Lib.hid (put_pk hM); have HB2x : Hid (Below w1.heap.size w1 w2) := Lib.hid (hbel _ _ (Nat.le_refl _) ((Below.refl _ _).alloc (Nat.le_refl _) _)); clear hM he hbel hsz)
  have HB2 : Hid (Below W.heap.size W w2) := Lib.hid (stepB HB1.out HB2x.out)
  have HS2 := Lib.hid (HS1.out.step HB2x.out)
  have HP2 : Hid (PIn w2 y a1) := Lib.hid (PInB.pin ((HP1.out.1.below HB2x.out).more HB2x.out.size))
  clear HP1 HS1 HB1 HB2x
  clear HP2 HM2
  go_wp2_with fail
  refine (HK.out w2 (HO.out.step HB2.out) HS2.out).mono ?_
  rintro e w5 ⟨A5, c5, xs, hxs, rfl, hk5, _, hb5⟩
  have HB5 : Hid (Below W.heap.size W w5) := Lib.hid (stepB HB2.out hb5)
  have HS5 := Lib.hid (HS2.out.step hb5)
  have HK5 := Lib.hid hk5
  have HX5 : Hid (xs.map Prod.fst = ys) := Lib.hid hxs
  have HE5 := Lib.hid (encodeAll_any A5 c5 xs w5 (HO.out.step HB5.out) HK5.out (by have := HL2.out; have e := congrArg List.length HX5.out; rw [List.length_map] at e; omega) (fun x hx => by have h := (HC2.out x.1 (by rw [← HX5.out]; exact List.mem_map_of_mem (f := Prod.fst) hx)).2; exact ⟨h.sz, h.tx (by decide)⟩))
  have HQ5 : Hid (encAllR (xs.map Prod.fst) = (X, 0)) := Lib.hid (by rw [HX5.out, encAllR_good (fun p hp => (HC2.out p hp).1), HG2.out])
  rw [HQ5.out] at HE5
  clear hxs hk5 hb5 HK HX5 HK5 HQ5 HS2 HB2
  go_wp2_with fail
  refine HE5.out.mono ?_
  rintro e w6 ⟨A6, c6, rfl, hs6, _, hb6⟩
  have HS6 := Lib.hid (HS5.out.step hb6)
  have HT6 := Lib.hid hs6
  have HB6 : Hid (Below W.heap.size W w6) := Lib.hid (stepB HB5.out hb6)
  clear hs6 hb6 HS5 HB5 HE5
  go_wp2_with fail
  refine (sameT A6 A c6 c X w6 HT6.out HS6.out).mono ?_
  rintro e w7 ⟨rfl, rfl⟩
  clear HS6 HT6
  go_wp2_with fail
  refine (awake7_any w6 (HO.out.step HB6.out)).mono ?_
  rintro e w8 ⟨rfl, hb8⟩
  have HB8 : Hid (Below W.heap.size W w8) := Lib.hid (stepB HB6.out hb8)
  clear hb8
  go_wp2_with fail
  go_ret
  exact ⟨rfl, HB8.out⟩

set_option maxRecDepth 20000 in
set_option maxHeartbeats 8000000 in
theorem only_bb (A : Option Addr) (c : Nat) (X : List UInt8) (W : World) (hw : S1.Okw W) (hsl : CL bv W W.heap.size A X) (hc : X.length ≤ c) (hl : ¬ 5000 < X.length) (y : Pkt) (z : Int) (hy : decodeR X = (y, z)) (h1 : z ≠ 0) (ys : List Pkt) (z2 : Int) (hys : decAllR X = (ys, z2)) (h2 : z2 ≠ 0) : Calls Tryz.prog 8 #[.slice A X.length c] W fun e W' => e = .returned (.bool true) ∧ Below W.heap.size W W' := by
  have q0 : decide ((5000 : Int) < (X.length : Int)) = false := decide_eq_false (by omega)
  have HO := Lib.hid hw
  have HS0 := Lib.hid hsl
  have HD := Lib.hid (decode_any A c X W hw hsl hc (by omega))
  have HK := Lib.hid (fun w1 h1 h2 => decodeAll_any A c X w1 h1 h2 hc (by omega))
  rw [hy] at HD
  rw [hys] at HK
  have q1 : (z == 0) = false := by simp [h1]
  have q2 : decide (z = 0) = false := by simp [h1]
  have q3 : (z2 == 0) = false := by simp [h2]
  have q4 : decide (z2 = 0) = false := by simp [h2]
  clear hw hsl hc hl hy hys
  go_enter Tryz.func8, Tryz.ntmps8
  go_wp2_with fail
  refine HD.out.mono ?_
  rintro e w1 ⟨a1, rfl, hp1, hb1⟩
  have HP1 := Lib.hid hp1
  have HB1 : Hid (Below W.heap.size W w1) := Lib.hid hb1
  have HS1 := Lib.hid (HS0.out.step hb1)
  clear hp1 hb1 HD HS0
  dsimp only at HP1
  go_upto_region 4 with (refine wpList_store_blkE (by rfl) 31 (.tmp 3) (.tmp 17) rfl rfl w1.heap.size 0 34 rfl (.agg (pkC y a1).toArray) rfl 31 (pkC Pkt.zero PA.zero) (pkC y a1) (zero_new w1) rfl rfl info33 (by rw [pkC_len]; decide) (one_cells rfl) ?_; rintro w2 hM he hbel hsz; have HM2 := Lib.hid (put_pk hM); have HB2x : Hid (Below w1.heap.size w1 w2) := Lib.hid (hbel _ _ (Nat.le_refl _) ((Below.refl _ _).alloc (Nat.le_refl _) _)); clear hM he hbel hsz)
  have HB2 : Hid (Below W.heap.size W w2) := Lib.hid (stepB HB1.out HB2x.out)
  have HS2 := Lib.hid (HS1.out.step HB2x.out)
  have HP2 : Hid (PIn w2 y a1) := Lib.hid (PInB.pin ((HP1.out.1.below HB2x.out).more HB2x.out.size))
  clear HP1 HS1 HB1 HB2x
  clear HP2 HM2
  go_wp2_with fail
  refine (HK.out w2 (HO.out.step HB2.out) HS2.out).mono ?_
  rintro e w5 ⟨A5, c5, xs, hxs, rfl, hk5, _, hb5⟩
  have HB5 : Hid (Below W.heap.size W w5) := Lib.hid (stepB HB2.out hb5)
  clear hxs hk5 hb5 HK HS2 HB2
  go_wp2_with fail
  refine (awake7_any w5 (HO.out.step HB5.out)).mono ?_
  rintro e w8 ⟨rfl, hb8⟩
  have HB8 : Hid (Below W.heap.size W w8) := Lib.hid (stepB HB5.out hb8)
  clear hb8
  go_wp2_with fail
  go_ret
  exact ⟨rfl, HB8.out⟩

theorem wireOnly_walk (A : Option Addr) (c : Nat) (X : List UInt8) (W : World) (hw : S1.Okw W) (hsl : CL bv W W.heap.size A X) (hc : X.length ≤ c) (_hn : X.length ≤ 140737488355328) : Calls Tryz.prog 8 #[.slice A X.length c] W fun e W' => e = .returned (.bool true) ∧ Below W.heap.size W W' := by
  by_cases hl : 5000 < X.length
  · exact only_long A c X W hw hsl hc hl
  generalize hy : decodeR X = r
  obtain ⟨y, z⟩ := r
  generalize hys : decAllR X = r2
  obtain ⟨ys, z2⟩ := r2
  by_cases h1 : z = 0
  · by_cases h2 : z2 = 0
    · exact only_aa A c X W hw hsl hc hl y z hy h1 ys z2 hys h2
    · exact only_ab A c X W hw hsl hc hl y z hy h1 ys z2 hys h2
  · by_cases h2 : z2 = 0
    · exact only_ba A c X W hw hsl hc hl y z hy h1 ys z2 hys h2
    · exact only_bb A c X W hw hsl hc hl y z hy h1 ys z2 hys h2

end Go.Proofs.YtaaginkafadhdaaGreatDoor
