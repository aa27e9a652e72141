/-
  TopicJoins answers true: the walk of its function, from the contracts. Conditions: MaxLen holds a number; the list reads as texts.
-/
import Derived.Test.YtdoginjdlckbpaaDoorAwake1
namespace Go.Proofs.YtdoginjdlckbpaaDoor
open Go.RowKit

def plB (xs : List ByteArray) (k : Nat) : Bool := decide (0 < xs.length) && (xs.take k).all fun x => !hasB (dl x) 47
theorem plB_succ {xs : List ByteArray} {k : Nat} {x : ByteArray} (hx : xs[k]? = some x) : plB xs (k + 1) = (plB xs k && !hasB (dl x) 47) := by
  unfold plB
  rw [List.take_add_one, hx, List.all_append]
  simp [Bool.and_assoc]
theorem plB_full {xs : List ByteArray} (h : plB xs xs.length = true) : lvB (jnB xs) = xs := by
  unfold plB at h
  rw [List.take_length, Bool.and_eq_true, List.all_eq_true] at h
  have h0 := of_decide_eq_true h.1
  unfold lvB jnB
  rw [dl_bs, T.lv_jn _ (by intro e; rw [List.map_eq_nil_iff] at e; rw [e] at h0; simp at h0) (fun y hy => ?_), map_bs_dl]
  obtain ⟨x, hx, rfl⟩ := List.mem_map.1 hy
  have := h.2 x hx
  unfold hasB at this
  simpa using this

set_option maxHeartbeats 4000000 in
theorem topicJoins_walk (A : Option Addr) (c : Nat) (xs : List ByteArray) (w : World) (hw : Okw w) (hsl : SL w w.heap.size A xs) (hc : xs.length ≤ c) (hN : xs.length ≤ 140737488355328) :
    Calls Tryd.prog 6 #[.slice A xs.length c] w fun e w' => e = .returned (.bool true) ∧ Below w.heap.size w w' := by
  have hq0 := Qk.refl hw
  cases hl : lightB 64 xs
  · have cl := light64_any A c xs w _ hsl hN
    rw [hl] at cl
    have CL := Lib.hid cl
    clear cl hl hsl
    go_enter Tryd.func6, Tryd.ntmps6
    go_wp2_with fail
    refine CL.out.mono ?_
    rintro e w1 ⟨rfl, rfl⟩
    go_wp2_with fail
    refine (awake1_any _ hw).mono ?_
    rintro e w2 ⟨rfl, hb2⟩
    go_wp2_with fail
    go_ret
    exact ⟨rfl, hb2⟩
  · obtain ⟨h64, h4096⟩ := light_parts hl
    have hjs : (jnB xs).size ≤ 64 * 4097 := Nat.le_trans (jnB_size h4096) (Nat.mul_le_mul h64 (Nat.le_refl _))
    have cl := light64_any A c xs w _ hsl hN
    rw [hl] at cl
    have CL := Lib.hid cl
    have HM : Hid (∀ x ∈ xs, x.size ≤ 1000000) := Lib.hid (fun x hx => Nat.le_trans (h4096 x hx) (by decide))
    have HPF := Lib.hid (plB_full (xs := xs))
    generalize hJ : jnB xs = J at hjs HPF
    have HJ := Lib.hid hJ
    have cj := fun w hsl => tJoin_any A c xs w hsl hc hN (by rw [hJ]; omega)
    rw [hJ] at cj
    have CJ := Lib.hid cj
    have crj := fun w B hsl => rJoin_any A c xs w B hsl (by omega) HM.out
    rw [hJ] at crj
    have CRJ := Lib.hid crj
    have HX : Hid (∀ (i : Nat) (x : ByteArray), xs[i]? = some x → x.size ≤ 4096) := Lib.hid (fun i x hx => h4096 x (List.mem_of_getElem? hx))
    have HS := Lib.hid hsl
    clear cl cj crj hJ hl h4096 hsl
    go_enter Tryd.func6, Tryd.ntmps6
    go_wp2_with fail
    refine CL.out.mono ?_
    rintro e w1 ⟨rfl, rfl⟩
    go_wp2_with fail
    refine (CJ.out _ HS.out).mono ?_
    rintro e w2 ⟨rfl, hb2⟩
    have hq2 := hq0.step hb2
    have HS2 := Lib.hid (HS.out.step hb2)
    clear hb2 CL CJ HS
    go_wp2_with fail
    go_loop [4, 5] (fun v i => ∃ k : Nat, k ≤ xs.length ∧ i = .int .i64 k ∧ v = .bool (plB xs k)) (fun _ i => xs.length - (intOf i).toNat)
    case atStart => exact ⟨0, by omega, rfl, by unfold plB; simp⟩
    case round =>
      obtain ⟨k, hk, rfl, rfl⟩ := hrel
      by_cases hlt : k < xs.length
      · obtain ⟨b, o, rfl, hbB, hcl⟩ := HS2.out (by omega)
        obtain ⟨x, hx⟩ : ∃ x, xs[k]? = some x := ⟨_, List.getElem?_eq_getElem hlt⟩
        have k1 := hcl k x hx
        have hxs := HX.out k x hx
        have HP := Lib.hid (plB_succ hx)
        clear hcl hx
        have ch := fun w => has47_any x w (by omega)
        generalize hasB (dl x) 47 = h47 at ch HP
        have CH := Lib.hid ch
        clear ch
        cases h47
        all_goals
          go_wp2_with (go_at_call 29; refine (CH.out _).mono ?_; rintro e w' ⟨rfl, rfl⟩)
          exact ⟨⟨k + 1, by omega, by go_num, by rw [HP.out]; simp⟩, by simp [intOf]; omega⟩
      · obtain rfl : k = xs.length := by omega
        clear hk
        generalize hpl : plB xs xs.length = pl at HPF ⊢
        clear hpl
        cases pl
        · go_wp2_with fail
          refine (awake1_any _ hq2.2).mono ?_
          rintro e w3 ⟨rfl, hb3⟩
          have hq3 := hq2.step hb3
          have hs3 := HS2.out.step hb3
          go_wp2_with fail
          refine (CRJ.out _ _ hs3).mono ?_
          rintro e w4 ⟨rfl, rfl⟩
          go_wp2_with fail
          go_ret
          exact ⟨by simp, hq3.1⟩
        · have hlv := HPF.out rfl
          have hsm : sameB (lvB J) xs = true := by rw [hlv]; exact decide_eq_true rfl
          have HSM := Lib.hid hsm
          have HLL : Hid ((lvB J).length = xs.length) := Lib.hid (by rw [hlv])
          clear hlv hsm
          go_wp2_with fail
          refine (awake1_any _ hq2.2).mono ?_
          rintro e w3 ⟨rfl, hb3⟩
          have hq3 := hq2.step hb3
          have hs3 := HS2.out.step hb3
          go_wp2_with fail
          refine (CRJ.out _ _ hs3).mono ?_
          rintro e w4 ⟨rfl, rfl⟩
          go_wp2_with fail
          refine (tLevels_any J _ hq3.2 (by omega)).mono ?_
          rintro e w5 ⟨A5, c5, rfl, hc5, hsl5, hb5⟩
          have hq5 := hq3.step hb5
          have hs5 := hs3.step hb5
          go_wp2_with fail
          have cs := same_any A5 A c5 c (lvB J) xs w5 _ hsl5 hs5 (by have := HLL.out; omega) (by omega)
          rw [HSM.out] at cs
          refine cs.mono ?_
          rintro e w6 ⟨rfl, n, rfl⟩
          have hq6 := hq5.drewN n
          clear cs
          go_wp2_with fail
          go_ret
          exact ⟨by simp, hq6.1⟩

end Go.Proofs.YtdoginjdlckbpaaDoor
