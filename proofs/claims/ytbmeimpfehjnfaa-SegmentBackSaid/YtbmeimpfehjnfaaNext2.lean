/-
  What Next of the specification of frame answers. Conditions: the position fits an int; so many bytes fit a slice.
-/
import Derived.Test.YtbmeimpfehjnfaaNext
namespace Go.Proofs.Ytbmeimpfehjnfaa
open Go.RowKit

theorem frame_split {l : List UInt8} {k j m : Nat} {E : List UInt8} (hE : E = (l.drop k).take j) : (l.drop k).take (j + 4 + m) = E ++ (l.drop (k + j)).take 4 ++ bodyR l (k + j) m := by
  unfold bodyR
  rw [hE, List.take_add, List.take_add, List.drop_drop, List.drop_drop, Nat.add_assoc k j 4]
theorem wrap_same {l : List UInt8} {k j m : Nat} {E : List UInt8} (hE : E = (l.drop k).take j) (h65 : m ≤ 65536) (hl : k + j + 4 + m ≤ l.length) (he : enc m = E) :
    wrapR (bodyR l (k + j) m) = (l.drop k).take (j + 4 + m) ↔ sum4 (sumR (bodyR l (k + j) m)) = (l.drop (k + j)).take 4 := by
  have hbl : (bodyR l (k + j) m).length = m := by unfold bodyR; rw [List.length_take, List.length_drop]; omega
  rw [frame_split hE]
  unfold wrapR
  rw [if_neg (by omega), hbl, he]
  constructor
  · intro h
    have h2 := List.append_cancel_right h
    exact List.append_cancel_left h2
  · intro h
    rw [h]

set_option maxHeartbeats 2000000 in
theorem rNext_any (A : Option Addr) (c : Nat) (l : List UInt8) (p : Int) (hp1 : -9223372036854775808 ≤ p) (hp2 : p ≤ 9223372036854775807) (w : World) (hsl : CL bv w w.heap.size A l) (hc : l.length ≤ c) (hn : l.length ≤ 140737488355328) :
    Calls Try.prog 36 #[.slice A l.length c, .int .i64 p] w (RetN (nextR l p) w) := by
  have hcn := rCount_any A c l p 65536 hp1 hp2 w _ hsl hc hn
  have hok := fun n nx => @countR_ok l p 65536 n nx
  unfold nextR
  generalize countR l p 65536 = r at hcn hok ⊢
  obtain ⟨n, nx, e⟩ := r
  have HC := Lib.hid hcn
  clear hcn hp1 hp2
  dsimp only
  by_cases he : e = 0
  · subst he
    obtain ⟨k, j, m, rfl, rfl, rfl, hlim, hj1, hj2, hkj, hm, henc⟩ := hok n nx rfl
    clear hok
    rw [if_neg (by simp)]
    by_cases ht : (l.length : Int) < ((k + j : Nat) : Int) + 4 + (m : Int)
    · rw [if_pos ht]
      clear hsl henc hj1 hj2
      generalize k + j = s at *
      go_enter Try.func36, Try.ntmps36
      go_wp2_with fail
      refine HC.out.mono ?_
      rintro e w' ⟨rfl, rfl⟩
      unfold tri
      go_wp2
      go_ret3
      exact ⟨_, rfl, Own.nil _ _, Below.refl _ _⟩
    · rw [if_neg ht]
      rw [Int.toNat_natCast, Int.toNat_natCast]
      have hlen : k + j + 4 + m ≤ l.length := by omega
      have hiff := wrap_same (E := enc m) henc (by omega) hlen rfl
      obtain ⟨A2, hs2, hcl2⟩ := slice_lh A c l (k + j + 4) (k + j + 4 + m) (by omega) hlen hc
      obtain ⟨A3, hs3, hcl3⟩ := slice_lh A c l k (k + j + 4 + m) (by omega) hlen hc
      have e4 : ((k + j + 4 : Nat) : Int) = ((k + j : Nat) : Int) + 4 := by omega
      have e5 : ((k + j + 4 + m : Nat) : Int) = ((k + j : Nat) : Int) + 4 + (m : Int) := by omega
      rw [e5, e4, show k + j + 4 + m - (k + j + 4) = m by omega] at hs2
      rw [e5, show k + j + 4 + m - k = j + 4 + m by omega] at hs3
      rw [show k + j + 4 + m - (k + j + 4) = m by omega] at hcl2
      rw [show k + j + 4 + m - k = j + 4 + m by omega] at hcl3
      have hbl : (bodyR l (k + j) m).length = m := by unfold bodyR; rw [List.length_take, List.length_drop]; omega
      have hql : ((l.drop k).take (j + 4 + m)).length = j + 4 + m := by rw [List.length_take, List.length_drop]; omega
      have HS2 : Hid (CL bv w w.heap.size A2 (bodyR l (k + j) m)) := Lib.hid (hcl2 w _ hsl)
      have HS3 := Lib.hid (hcl3 w _ hsl)
      have eb : (l.drop (k + j + 4)).take m = bodyR l (k + j) m := rfl
      rw [eb, hbl] at hs2
      rw [hql] at hs3
      clear eb
      generalize bodyR l (k + j) m = body at *
      generalize (l.drop k).take (j + 4 + m) = fr at *
      generalize (l.drop (k + j)).take 4 = q at *
      have hk0 : (k : Int) ≤ ((k + j : Nat) : Int) := by omega
      clear hcl2 hcl3 hsl e4 e5 henc hlim hj2
      obtain ⟨f, hf⟩ : ∃ f, j + 4 + m = f := ⟨_, rfl⟩
      rw [hf] at hs3 hql
      have hs3' := fun w => hs3 w
      generalize k + j = s at *
      have HBL := Lib.hid hbl
      have HW : Hid (∀ (A : Option Addr) (c : Nat) (w : World), CL bv w w.heap.size A body → Calls Try.prog 45 #[.slice A m c] w (RetB (wrapR body) w)) := Lib.hid (fun A c w h => by
        have := rWrap_any A c body w h (by omega)
        rw [HBL.out] at this
        exact this)
      have hgl : ∃ g, (wrapR body).length = g := ⟨_, rfl⟩
      obtain ⟨g, hgl⟩ := hgl
      have HSE := Lib.hid (copied HS2.out (Nat.le_refl _) (.cells #[] 5))
      have hm1 : (m : Int) ≤ 140737488355328 := by omega
      by_cases hsum : sum4 (sumR body) = q
      · rw [if_neg (by simpa using hsum)]
        have hse : wrapR body = fr := hiff.2 hsum
        clear hsum hiff
        clear hbl hf hs3
        go_enter Try.func36, Try.ntmps36
        go_wp2_with fail
        refine HC.out.mono ?_
        rintro e w' ⟨rfl, rfl⟩
        unfold tri
        go_wp2_with (at_builtin; go_must (refine wpList_appB _ rfl (.tmp 28) (.tmp 36) rfl w.heap.size _ [] body A2 (c - (s + 4)) rfl (Own.made w 0 #[] w.heap.size (Nat.le_refl _) (by decide) rfl) (by rw [HBL.out]; rfl) w.heap.size HSE.out w ((Below.refl _ _).alloc (Nat.le_refl _) _) (by simp) (by have := HBL.out; simp; omega) ?_); intro v1 w1 hown1 hb1 hB1)
        rw [List.nil_append] at hown1
        obtain ⟨A1, c1, rfl, _, hsl1⟩ := hown1.ret
        rw [HBL.out] at *
        have HO1 := Lib.hid hown1
        have HB1 := Lib.hid hb1
        have hfr1 : ∀ w', Below w1.heap.size w1 w' → (convert 22 9 (.slice A3 f (c - k))).run Try.prog w' = .ok (.string (bs fr)) w' := fun w' hb' => by
          have := conv_str ((HS3.out.below hb1).below (hb'.mono hB1)) (c - k)
          rw [hql] at this
          exact this
        have HWX : Hid (∀ w', Below w1.heap.size w1 w' → Calls Try.prog 45 #[.slice A1 m c1] w' fun e w'' => ∃ A6 c6, e = .returned (.slice A6 g c6) ∧ (convert 22 9 (.slice A6 g c6)).run Try.prog w'' = .ok (.string (bs (wrapR body))) w'' ∧
            (convert 22 9 (.slice A3 f (c - k))).run Try.prog w'' = .ok (.string (bs fr)) w'' ∧ Below w1.heap.size w1 w'') := Lib.hid (fun w' hb' => by
          refine (HW.out A1 c1 w' (hsl1.step hb')).mono ?_
          rintro e w'' ⟨v, rfl, hown, hb''⟩
          obtain ⟨A6, c6, rfl, _, hsl6⟩ := hown.ret
          have h1 := conv_str hsl6 c6
          rw [hgl] at h1 ⊢
          exact ⟨A6, c6, rfl, h1, hfr1 _ (stepB hb' hb''), stepB hb' hb''⟩)
        have hcvd := hfr1 _ ((Below.refl w1.heap.size w1).drew)
        have hbd : Below w1.heap.size w1 w1.drew := (Below.refl _ _).drew
        have q5 : IntKind.i64.wrap ((s : Int) + 4) = (s : Int) + 4 := wrap_i64_id _ (by omega) (by omega)
        have q6 : IntKind.i64.wrap ((s : Int) + 4 + (m : Int)) = (s : Int) + 4 + (m : Int) := wrap_i64_id _ (by omega) (by omega)
        clear hfr1 hown1 hsl1 hb1 HW HS3 HS2 HSE hql hgl HBL
        rw [hse] at HWX
        clear hse
        generalize bs fr = S at *
        go_wp2_with fail
        go_region_with (go_at_call 45; refine (HWX.out _ hbd).mono ?_; rintro e w2 ⟨A6, c6, rfl, hcv6, hcv3, hb6⟩)
        all_goals
          have hbz := stepB HB1.out hb6
          have hoz := HO1.out.step hb6
          clear hcv6 hcv3 hb6 HWX HC hs2 hs3' HO1 HB1 hbd hcvd
          go_wp2
          go_ret3
          exact ⟨_, rfl, hoz, hbz⟩
      · rw [if_pos (by simpa using hsum)]
        have hse : (!((bs (wrapR body)).toList == (bs fr).toList)) = true := by
          rw [bs_dec, decide_eq_false (fun h => hsum (hiff.1 h))]
          rfl
        clear hsum hiff
        clear hbl hf hs3
        go_enter Try.func36, Try.ntmps36
        go_wp2_with fail
        refine HC.out.mono ?_
        rintro e w' ⟨rfl, rfl⟩
        unfold tri
        go_wp2_with (at_builtin; go_must (refine wpList_appB _ rfl (.tmp 28) (.tmp 36) rfl w.heap.size _ [] body A2 (c - (s + 4)) rfl (Own.made w 0 #[] w.heap.size (Nat.le_refl _) (by decide) rfl) (by rw [HBL.out]; rfl) w.heap.size HSE.out w ((Below.refl _ _).alloc (Nat.le_refl _) _) (by simp) (by have := HBL.out; simp; omega) ?_); intro v1 w1 hown1 hb1 hB1)
        rw [List.nil_append] at hown1
        obtain ⟨A1, c1, rfl, _, hsl1⟩ := hown1.ret
        rw [HBL.out] at *
        have HO1 := Lib.hid hown1
        have HB1 := Lib.hid hb1
        have hfr1 : ∀ w', Below w1.heap.size w1 w' → (convert 22 9 (.slice A3 f (c - k))).run Try.prog w' = .ok (.string (bs fr)) w' := fun w' hb' => by
          have := conv_str ((HS3.out.below hb1).below (hb'.mono hB1)) (c - k)
          rw [hql] at this
          exact this
        have HWX : Hid (∀ w', Below w1.heap.size w1 w' → Calls Try.prog 45 #[.slice A1 m c1] w' fun e w'' => ∃ A6 c6, e = .returned (.slice A6 g c6) ∧ (convert 22 9 (.slice A6 g c6)).run Try.prog w'' = .ok (.string (bs (wrapR body))) w'' ∧
            (convert 22 9 (.slice A3 f (c - k))).run Try.prog w'' = .ok (.string (bs fr)) w'' ∧ Below w1.heap.size w1 w'') := Lib.hid (fun w' hb' => by
          refine (HW.out A1 c1 w' (hsl1.step hb')).mono ?_
          rintro e w'' ⟨v, rfl, hown, hb''⟩
          obtain ⟨A6, c6, rfl, _, hsl6⟩ := hown.ret
          have h1 := conv_str hsl6 c6
          rw [hgl] at h1 ⊢
          exact ⟨A6, c6, rfl, h1, hfr1 _ (stepB hb' hb''), stepB hb' hb''⟩)
        have hcvd := hfr1 _ ((Below.refl w1.heap.size w1).drew)
        have hbd : Below w1.heap.size w1 w1.drew := (Below.refl _ _).drew
        have q5 : IntKind.i64.wrap ((s : Int) + 4) = (s : Int) + 4 := wrap_i64_id _ (by omega) (by omega)
        have q6 : IntKind.i64.wrap ((s : Int) + 4 + (m : Int)) = (s : Int) + 4 + (m : Int) := wrap_i64_id _ (by omega) (by omega)
        clear hfr1 hown1 hsl1 hb1 HW HS3 HS2 HSE hql hgl HBL
        generalize bs fr = S at *
        generalize bs (wrapR body) = S6 at *
        go_wp2_with fail
        go_region_with (go_at_call 45; refine (HWX.out _ hbd).mono ?_; rintro e w2 ⟨A6, c6, rfl, hcv6, hcv3, hb6⟩)
        all_goals
          have hbz := stepB HB1.out hb6
          clear hcv6 hcv3 hb6 HWX HC hs2 hs3' HO1 HB1 hbd hcvd
          go_wp2
          go_ret3
          exact ⟨_, rfl, Own.nil _ _, hbz⟩
  · rw [if_pos he]
    have hb : (e != 0) = true := by simp [he]
    clear he hok hsl
    go_enter Try.func36, Try.ntmps36
    go_wp2_with fail
    refine HC.out.mono ?_
    rintro e w' ⟨rfl, rfl⟩
    unfold tri
    go_wp2
    go_ret3
    exact ⟨_, rfl, Own.nil _ _, Below.refl _ _⟩

end Go.Proofs.Ytbmeimpfehjnfaa
