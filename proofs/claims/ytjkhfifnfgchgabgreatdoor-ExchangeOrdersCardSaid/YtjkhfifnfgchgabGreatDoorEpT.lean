/-
  What reached and reachedByDefault of exchange answer: the queues that a message reaches over alternates, in memory of their own. Conditions: the lists read ak data, names ascend, kinds are walked; few elements.
-/
import Derived.Test.YtjkhfifnfgchgabGreatDoorEpS
namespace Go.Proofs.YtjkhfifnfgchgabGreatDoor
open Go.RowKit
open S2 (BK Put get_ops)

theorem pigeon {α : Type} [DecidableEq α] : ∀ (ak m : List α), ak.Nodup → (∀ a ∈ ak, a ∈ m) → ak.length ≤ m.length
  | [], m, _, _ => Nat.zero_le _
  | a :: ak, m, hn, hm => by
    have h1 := pigeon ak (m.erase a) (List.nodup_cons.1 hn).2 (fun b hb => by
      refine (List.mem_erase_of_ne (fun e => ?_)).2 (hm b (List.mem_cons_of_mem _ hb))
      exact (List.nodup_cons.1 hn).1 (e ▸ hb))
    rw [List.length_erase_of_mem (hm a List.mem_cons_self)] at h1
    have := List.length_pos_of_mem (hm a List.mem_cons_self)
    rw [List.length_cons]
    omega
theorem hasT_any (A : Option Addr) (c B : Nat) (xs : List ByteArray) (x : ByteArray) (w : World) (h : TL w B A xs) (hn : xs.length ≤ 1000000) :
    Calls Tryz.prog 27 #[.slice A xs.length c, .string x] w fun e w' => e = .returned (.bool (xs.any fun a => decide (a = x))) ∧ w' = w := by
  by_cases h0 : xs.length = 0
  · have hx : xs = [] := List.eq_nil_of_length_eq_zero h0
    subst hx
    exact Tryz.slices_Contains_string_empty A c x w
  · obtain ⟨b, o, rfl, _, hc⟩ := h (by omega)
    have hq := Tryz.slices_Contains_string b o xs.length c xs x w (Nat.le_refl _) (by omega) (fun j hj => by
      have := hc j (xs.getD j ByteArray.empty) 0 _ (by rw [List.getD_eq_getElem?_getD, List.getElem?_eq_getElem hj]; rfl) rfl
      rw [Nat.mul_one, Nat.add_zero] at this
      exact this)
    have e : Lib.containsS (xs.take xs.length) x = xs.any fun a => decide (a = x) := by
      rw [List.take_length, Bool.eq_iff_iff, Lib.containsS_iff, List.any_eq_true]
      exact ⟨fun h => ⟨x, h, by simp⟩, fun ⟨a, h1, h2⟩ => by have := of_decide_eq_true h2; exact this ▸ h1⟩
    rw [e] at hq
    exact hq
/-- what the search has asked for -/
structure Asked (l : List Ex) (asked : List ByteArray) : Prop where
  nodup : asked.Nodup
  mem : ∀ a ∈ asked, a ∈ l.map (·.nm)
theorem Asked.nil (l : List Ex) : Asked l [] := ⟨List.nodup_nil, fun a h => by cases h⟩
theorem Asked.len {l : List Ex} {asked : List ByteArray} (h : Asked l asked) : asked.length ≤ l.length := by
  have := pigeon asked (l.map (·.nm)) h.nodup h.mem
  rwa [List.length_map] at this
theorem Asked.add {l : List Ex} {asked : List ByteArray} (h : Asked l asked) {at_ : ByteArray} {x : Ex} (hx : getE l at_ = some x) (hn : asked.any (fun a => decide (a = at_)) = false) : Asked l (asked ++ [at_]) := by
  have hna : at_ ∉ asked := fun hm => by
    rw [List.any_eq_false] at hn
    exact hn at_ hm (by simp)
  refine ⟨?_, fun a ha => ?_⟩
  · rw [List.nodup_append]
    refine ⟨h.nodup, by simp, fun a ha b hb e => ?_⟩
    rw [List.mem_singleton] at hb
    subst hb
    subst e
    exact hna ha
  · rcases List.mem_append.1 ha with ha | ha
    · exact h.mem a ha
    · rw [List.mem_singleton] at ha
      subst ha
      exact List.mem_map.2 ⟨x, (getE_some hx).2, (getE_some hx).1⟩
theorem reachR_in {l : List Ex} {bs : List Bd} {key : ByteArray} {ps : List PR} {n : Nat} {asked : List ByteArray} {at_ : ByteArray} (h : asked.any (fun a => decide (a = at_)) = true) : reachR l bs key ps (n + 1) asked at_ = [] := by
  show (if _ then _ else _) = _
  rw [if_pos h]
theorem reachR_none {l : List Ex} {bs : List Bd} {key : ByteArray} {ps : List PR} {n : Nat} {asked : List ByteArray} {at_ : ByteArray} (h : asked.any (fun a => decide (a = at_)) = false) (hg : getE l at_ = none) : reachR l bs key ps (n + 1) asked at_ = [] := by
  show (if _ then _ else _) = _
  rw [if_neg (by rw [h]; decide), hg]
theorem reachR_some {l : List Ex} {bs : List Bd} {key : ByteArray} {ps : List PR} {n : Nat} {asked : List ByteArray} {at_ : ByteArray} {x : Ex} (h : asked.any (fun a => decide (a = at_)) = false) (hg : getE l at_ = some x) : reachR l bs key ps (n + 1) asked at_ = if takenR bs x key ps = [] then reachR l bs key ps n (asked ++ [at_]) x.alt else takenR bs x key ps := by
  show (if _ then _ else _) = _
  rw [if_neg (by rw [h]; decide), hg]

set_option maxRecDepth 20000 in
set_option maxHeartbeats 8000000 in
theorem reached_any (A1 : Option Addr) (c1 : Nat) (l : List Ex) (A2 : Option Addr) (c2 : Nat) (xs : List BE) (ex key : ByteArray) (ps : List PR) (Ap : Option Addr) (np cp : Nat) (w : World) (h1 : EL w w.heap.size A1 l) (ha : AscE l) (hk : ∀ x ∈ l, KO x.kd) (hn1 : l.length ≤ 100000) (h2 : BI w w.heap.size A2 xs) (hn2 : xs.length ≤ 100000) :
    Calls Tryz.prog 51 #[rtV A1 l.length c1 A2 xs.length c2, .string ex, enV key Ap np cp] w fun e w' => ∃ v, e = .returned v ∧ OwnT w' w.heap.size v (reachR l (xs.map BE.d) key ps (l.length + 1) [] ex) ∧ Below w.heap.size w w' := by
  have HC := Lib.hid (fun A c B ak x w1 h hn => hasT_any A c B ak x w1 h hn)
  have HF := Lib.hid (fun at_ w1 h1 => find_any A1 c1 l at_ w1 h1 ha hn1)
  have HGE := Lib.hid (fun at_ x h1 => @getE_pos l ha at_ x h1)
  have HT := Lib.hid (fun x w1 h kx => taken_any A2 c2 xs x key ps Ap np cp w1 h kx hn2)
  have HKO := Lib.hid hk
  have HE := Lib.hid h1
  have HX := Lib.hid h2
  have HN1 := Lib.hid hn1
  have HTL : Hid (∀ x : Ex, (takenR (xs.map BE.d) x key ps).length ≤ 100000) := Lib.hid (fun x => by have := takenR_le (xs.map BE.d) x key ps; rw [List.length_map] at this; omega)
  obtain ⟨R, hR⟩ : ∃ R, reachR l (xs.map BE.d) key ps (l.length + 1) [] ex = R := ⟨_, rfl⟩
  rw [hR]
  have HR := Lib.hid hR
  have HI := Lib.hid (fun n ak at_ h => @reachR_in l (xs.map BE.d) key ps n ak at_ h)
  have HNO := Lib.hid (fun n ak at_ h h' => @reachR_none l (xs.map BE.d) key ps n ak at_ h h')
  have HSO := Lib.hid (fun n ak at_ x h h' => @reachR_some l (xs.map BE.d) key ps n ak at_ x h h')
  unfold retS foundE at HF
  unfold enV at HT
  unfold rtV enV
  clear h1 ha hk hn1 h2 hn2 hR
  go_enter Tryz.func51, Tryz.ntmps51
  go_upto_region 1 with fail
  refine name_world (C := fun w1 => Code.wp _ _ _ _ w1) ((w.alloc (.cells [.slice A1 l.length c1, .slice A2 xs.length c2].toArray 25)).alloc (.cells [.string key, .slice Ap np cp].toArray 79)) ?_
  intro w1 hw1
  obtain ⟨u1, u2, hs0, hB0⟩ := S2.two_laid hw1
  have T_w1 := Lib.hid u1
  have E_w1 := Lib.hid u2
  have B_w1 := Lib.hid hB0
  have HZ1 := Lib.hid hs0
  clear hw1 u1 u2 hs0 hB0
  go_wp2_with fail
  go_loopg [1, 7] (l.length + 1) (fun g v v7 wr => ∃ (ak : List ByteArray) (at_ : ByteArray), ak.length + g = l.length + 1 ∧ v = .string at_ ∧ OwnT wr w1.heap.size v7 ak ∧ Asked l ak ∧ reachR l (xs.map BE.d) key ps g ak at_ = R ∧ Below w1.heap.size w1 wr)
  case atStart => exact ⟨[], ex, by simp, rfl, OwnG.nil _ _, Asked.nil l, HR.out, Below.refl _ _⟩
  case round =>
    obtain ⟨ak, at_, hkg, rfl, ho, has, hre, hb0⟩ := hrel
    obtain ⟨Av, cv, hv, hcv, hgl⟩ := OwnG.ret gT_len ho
    subst hv
    have O_wr := Lib.hid ho
    have B_wr := Lib.hid hb0
    have HG := Lib.hid hkg
    have HAS := Lib.hid has
    have HRE := Lib.hid hre
    have HGL := Lib.hid hgl
    clear ho hb0 has hre hgl
    cases gk with
    | zero => exact absurd HAS.out.len (by omega)
    | succ n =>
      have HAL : Hid (ak.length ≤ 100000) := Lib.hid (by have := HAS.out.len; have := HN1.out; omega)
      have HCC := Lib.hid (HC.out Av cv wr.heap.size ak at_ wr HGL.out (by have := HAL.out; omega))
      have HIN := Lib.hid (HI.out n ak at_)
      have HNN := Lib.hid (HNO.out n ak at_)
      have HSS := Lib.hid (fun x => HSO.out n ak at_ x)
      have HAD := Lib.hid (fun x h h' => @Asked.add l ak HAS.out at_ x h h')
      obtain ⟨hb, hhb⟩ : ∃ b, ak.any (fun a => decide (a = at_)) = b := ⟨_, rfl⟩
      rw [hhb] at HCC HIN HNN HSS HAD
      clear hkg hcv hhb HGL
      obtain ⟨na, hna⟩ : ∃ n, ak.length = n := ⟨_, rfl⟩
      rw [hna] at HCC HAL HG O_wr
      try rw [hna]
      have HNA := Lib.hid hna
      clear hna
      go_wp2_with fail
      refine HCC.out.mono ?_
      rintro e w2 ⟨rfl, hw⟩
      have hw := hw.symm
      subst hw
      clear HCC
      cases hb with
      | true =>
        have HV : Hid (R = []) := Lib.hid (by rw [← HRE.out]; exact HIN.out rfl)
        go_wp2_with fail
        go_ret
        exact ⟨_, rfl, by rw [HV.out]; exact OwnG.nil _ _, stepB B_w1.out B_wr.out⟩
      | false =>
        have T_wr := Lib.hid (T_w1.out.step B_wr.out)
        have E_wr := Lib.hid (E_w1.out.step B_wr.out)
        have r0 := T_wr.out.cell 0 rfl
        go_wp2_with fail
        refine (HF.out at_ _ (GL.step HE.out (stepB B_w1.out B_wr.out))).mono ?_
        rintro e w2 ⟨rfl, hb⟩
        have T_w2 := Lib.hid (T_wr.out.step hb)
        have E_w2 := Lib.hid (E_wr.out.step hb)
        have O_w2 := Lib.hid (OwnG.step O_wr.out hb)
        have B_w2 := Lib.hid (stepB B_wr.out hb)
        clear hb r0 T_wr E_wr O_wr B_wr
        obtain ⟨og, hog⟩ : ∃ o, getE l at_ = o := ⟨_, rfl⟩
        have HGX := Lib.hid (HGE.out at_)
        rw [hog] at HNN HSS HAD HGX
        try rw [hog]
        generalize posE l at_ = pos at *
        cases og with
        | none =>
          have HV : Hid (R = []) := Lib.hid (by rw [← HRE.out]; exact HNN.out (by trivial) (by trivial))
          clear hog
          go_wp2_with fail
          go_ret
          exact ⟨_, rfl, by rw [HV.out]; exact OwnG.nil _ _, stepB B_w1.out B_w2.out⟩
        | some x =>
          have HKX := Lib.hid (HKO.out x (getE_some hog).2)
          have hx := HGX.out x rfl
          have hsl := GL.step HE.out (stepB B_w1.out B_w2.out)
          obtain ⟨b, o, hA, hbB, hcl⟩ := EL.at_ hsl hx
          have HLD := Lib.hid (load_ex hcl)
          have j1 : (0 : Int) ≤ (pos : Int) := by omega
          have j2 : (pos : Int) < (l.length : Int) := by have := (List.getElem?_eq_some_iff.1 hx).1; omega
          subst hA
          have r0 := T_w2.out.cell 0 rfl
          clear hx hcl hbB hsl hog HGX
          go_upto_region 7 with first
            | (refine wpList_load_v (by rfl) 32 (.tmp 28) rfl ⟨b, o + pos * 3, none⟩ (by go_simp) _ HLD.out ?_)
            | (refine S2.wpList_store_all (by rfl) 32 (.tmp 10) (.tmp 29) rfl rfl w2.heap.size rfl (gE x) rfl 32 _ (BK.new w2 _ _) exSize rfl (gE_one _) ?_; intro w4 hM hP; have hb := hP.below (S2.below_new w2 _) (Nat.le_refl _); have B_w4 := Lib.hid (stepB B_w2.out hb); have X_w4 := Lib.hid hM; have O_w4 := Lib.hid (OwnG.step O_w2.out hb); have T_w4 := Lib.hid (T_w2.out.step hb); have E_w4 := Lib.hid (E_w2.out.step hb); have HOX := Lib.hid (OwnG.high O_w2.out (Nat.le_refl _)); clear hM hP hb)
          obtain ⟨q, hq⟩ : ∃ q, q = w2.heap.size := ⟨_, rfl⟩
          rw [← hq] at X_w4 HOX
          try rw [← hq]
          clear r0 HLD T_w2 E_w2 O_w2 B_w2 hq
          have r1 := T_w4.out.cell 1 rfl
          have HLX := Lib.hid (load_ex0 X_w4.out)
          have HLE4 := Lib.hid (S2.run_load_all E_w4.out Tryz.underlying79 rfl enSize)
          have HTX := Lib.hid (HT.out x w4 (HX.out.step (stepB B_w1.out B_w4.out)) HKX.out)
          have HTLX := Lib.hid (HTL.out x)
          obtain ⟨tk, htk⟩ : ∃ t, takenR (xs.map BE.d) x key ps = t := ⟨_, rfl⟩
          have HSX := Lib.hid (HSS.out x (by trivial) rfl)
          rw [htk] at HTX HSX HTLX
          clear htk
          go_wp2_with first
            | (refine wpList_load_v (by rfl) 32 (.tmp 10) rfl ⟨q, 0, none⟩ (by go_simp) _ HLX.out ?_)
            | (refine wpList_load_v (by rfl) 79 (.tmp 5) rfl ⟨w.heap.size + 1, 0, none⟩ (by go_simp) _ HLE4.out ?_)
          refine HTX.out.mono ?_
          rintro e w5 ⟨vq, rfl, hq, hb⟩
          have O_w5 := Lib.hid (OwnG.step O_w4.out hb)
          have B_w5 := Lib.hid (stepB B_w4.out hb)
          have X_w5 := Lib.hid (X_w4.out.step hb)
          obtain ⟨Aq, cq, hvq, _⟩ := OwnG.ret gT_len hq
          subst hvq
          have HQ : Hid (OwnT w5 w.heap.size (.slice Aq tk.length cq) tk) := Lib.hid (OwnG.weak hq (stepB B_w1.out B_w4.out).size)
          clear hb hq r1 HLX HLE4 O_w4 B_w4 X_w4 E_w4 T_w4 HTX
          by_cases ht : tk = []
          · subst ht
            have HV : Hid (reachR l (xs.map BE.d) key ps n (ak ++ [at_]) x.alt = R) := Lib.hid (by rw [← HRE.out, HSX.out, if_pos rfl])
            have HAN := Lib.hid (HAD.out x rfl (by trivial))
            clear HQ
            have hz : (([] : List ByteArray).length : Int) = 0 := rfl
            go_wp2_with (at_builtin; go_must (refine wpList_plain rfl (fun K hK => ?_)); refine oper_appG (g := gT) (k := 1) (e := 9) (by decide) _ _ 45 45 rfl (.string ByteArray.empty) 16 Tryz.underlying45 strInfo9 rfl (by decide) w1.heap.size (.slice Av na cv) ak [at_] _ rfl (OwnG.step O_w5.out (S2.below_new w5 _)) rfl (srcG_one gT_len gT_one Tryz.underlying45 w5 at_) (by have := B_w5.out.size; simp; omega) (by have := HAL.out; have := HNA.out; simp; omega) ?_; intro v9 wa hown' hgr hof; refine hK _ _ ?_; clear hK K; have O_wa := Lib.hid hown'; have B_wa : Hid (Below w1.heap.size w1 wa) := Lib.hid (Below.grow (B := w1.heap.size) (stepB B_w5.out (S2.below_new w5 _)) (OwnG.step O_w5.out (S2.below_new w5 _)) hgr (by have := B_w5.out.size; simp; omega) (Nat.le_refl _)); have X_wa : Hid (BK 32 wa q (gE x)) := Lib.hid ((hgr.block q (by have := X_w5.out.lt; simp; omega) (fun e => HOX.out e.symm)).trans (X_w5.out.step (S2.below_new w5 _))); have x2 := X_wa.out.cell 2 rfl; clear hown' hgr hof)
            go_roundg n
            case measure => omega
            case rel => exact ⟨ak ++ [at_], x.alt, by have := HG.out; have := HNA.out; simp; omega, rfl, O_wa.out, HAN.out, HV.out, B_wa.out⟩
          · have HV : Hid (R = tk) := Lib.hid (by rw [← HRE.out, HSX.out, if_neg ht])
            have q7 : 0 < tk.length := List.length_pos_iff.2 ht
            clear ht
            go_wp2_with fail
            go_ret
            exact ⟨_, rfl, by rw [HV.out]; exact HQ.out, stepB B_w1.out B_w5.out⟩
end Go.Proofs.YtjkhfifnfgchgabGreatDoor
