/-
  What reachedByDefault and Route of exchange answer: the queues that a message reaches, in memory of their own, or the error. Conditions: the lists read as data, names ascend, kinds are walked; few elements.
-/
import Derived.Test.YtjkhfifnfgchgabGreatDoorEpT
namespace Go.Proofs.YtjkhfifnfgchgabGreatDoor
open Go.RowKit
open S2 (BK Put get_ops)

def ofQ (o : Option Ex) (r : List ByteArray) : List ByteArray × Int := match o with
  | none => ([], 8)
  | some _ => (compR (sortR r), 0)
def RetRu (q : List ByteArray × Int) (w : World) (e : Ending) (w' : World) : Prop := ∃ v, e = .returned (.tuple #[v, .int .i64 q.2]) ∧ OwnT w' w.heap.size v q.1 ∧ Below w.heap.size w w'
theorem RetRu.out {q : List ByteArray × Int} {w w' : World} {v : Value} {xs : List ByteArray} {r : Int} (h : q = (xs, r)) (ho : OwnT w' w.heap.size v xs) (hb : Below w.heap.size w w') : RetRu q w (.returned (.tuple #[v, .int .i64 r])) w' := by subst h; exact ⟨v, rfl, ho, hb⟩
set_option maxHeartbeats 2000000 in
theorem byDefault_any (key : ByteArray) (w : World) : Calls Tryz.prog 50 #[.string key] w fun e w' => ∃ v, e = .returned v ∧ OwnT w' w.heap.size v (if nameR key = true then [key] else []) ∧ Below w.heap.size w w' := by
  have HN : Hid (∀ w1, Calls Tryz.prog 24 #[.string key] w1 fun e w' => e = .returned (.bool (nameR key)) ∧ Below w1.heap.size w1 w') := Lib.hid (fun w1 => S1.tName_any key w1)
  generalize nameR key = b at *
  go_enter Tryz.func50, Tryz.ntmps50
  go_wp2_with fail
  refine (HN.out _).mono ?_
  rintro e w1 ⟨rfl, hb⟩
  have HB := Lib.hid hb
  clear hb
  cases b with
  | false =>
    go_wp2_with fail
    go_ret
    exact ⟨_, rfl, OwnG.nil _ _, HB.out⟩
  | true =>
    have HO : Hid (OwnT (w1.alloc (.cells (gT key).toArray 9)) w.heap.size (.slice (some ⟨w1.heap.size, 0, none⟩) 1 1) [key]) := Lib.hid (row_ownG (q := w1.heap.size) (cap := 1) (xs := [key]) (sp := []) gT_len HB.out.size (BK.new w1 _ _) (Nat.le_refl _) (by decide) rfl)
    have HB2 := Lib.hid (HB.out.alloc HB.out.size (.cells (gT key).toArray 9))
    go_wp2_with fail
    go_ret
    exact ⟨_, rfl, HO.out, HB2.out⟩

set_option maxRecDepth 20000 in
set_option maxHeartbeats 8000000 in
theorem Route_any (A1 : Option Addr) (c1 : Nat) (l : List Ex) (A2 : Option Addr) (c2 : Nat) (xs : List BE) (ex key : ByteArray) (ps : List PR) (Ap : Option Addr) (cp : Nat) (w : World) (h1 : EL w w.heap.size A1 l) (ha : AscE l) (hk : ∀ x ∈ l, KO x.kd) (hn1 : l.length ≤ 100000) (h2 : BI w w.heap.size A2 xs) (hn2 : xs.length ≤ 100000) (h3 : PL w w.heap.size Ap ps) :
    Calls Tryz.prog 19 #[rtV A1 l.length c1 A2 xs.length c2, .string ex, .string key, .slice Ap ps.length cp] w (RetRu (routeR l (xs.map BE.d) ex key ps) w) := by
  have HK := Lib.hid (fun w1 => checkKey_any key w1)
  have HP := Lib.hid (fun w1 h => props_any Ap cp ps w1 h)
  have HD := Lib.hid (fun w1 => byDefault_any key w1)
  have HN : Hid (∀ w1, Calls Tryz.prog 24 #[.string ex] w1 fun e w' => e = .returned (.bool (nameR ex)) ∧ Below w1.heap.size w1 w') := Lib.hid (fun w1 => S1.tName_any ex w1)
  have HF := Lib.hid (fun w1 h1 => find_any A1 c1 l ex w1 h1 ha hn1)
  have HR := Lib.hid (fun w1 h1 h2 => reached_any A1 c1 l A2 c2 xs ex key ps Ap ps.length cp w1 h1 ha hk hn1 h2 hn2)
  have HRL : Hid ((reachR l (xs.map BE.d) key ps (l.length + 1) [] ex).length ≤ 1000000) := Lib.hid (by
    have h : ∀ n ak at_, (reachR l (xs.map BE.d) key ps n ak at_).length ≤ xs.length := by
      intro n
      induction n with
      | zero => intro ak at_; exact Nat.zero_le _
      | succ n ih =>
        intro ak at_
        unfold reachR
        split
        · exact Nat.zero_le _
        · split
          · exact Nat.zero_le _
          · split
            · exact ih _ _
            · have := takenR_le (xs.map BE.d) (by assumption) key ps
              rwa [List.length_map] at this
    have := h (l.length + 1) [] ex
    omega)
  have HE := Lib.hid h1
  have HX := Lib.hid h2
  have HPL := Lib.hid h3
  have q2 := nm_emp ex
  have q3 := eqL ex []
  have QR : Hid (routeR l (xs.map BE.d) ex key ps = if txR key ≠ 0 then ([], txR key) else if propsR ps ≠ 0 then ([], (propsR ps : Int)) else if ex = ⟨#[]⟩ then (if nameR key = true then [key] else [], 0) else if nameR ex = false then ([], 11) else ofQ (getE l ex) (reachR l (xs.map BE.d) key ps (l.length + 1) [] ex)) := Lib.hid rfl
  obtain ⟨Q, hQ⟩ : ∃ Q, routeR l (xs.map BE.d) ex key ps = Q := ⟨_, rfl⟩
  rw [hQ] at QR ⊢
  generalize (if nameR key = true then [key] else []) = dk at HD QR
  generalize reachR l (xs.map BE.d) key ps (l.length + 1) [] ex = rr at HR QR HRL
  generalize nameR ex = bn at HN QR
  generalize txR key = tk at HK QR
  generalize propsR ps = pr at HP QR
  obtain ⟨be, hbe⟩ : ∃ b, decide (ex = ⟨#[]⟩) = b := ⟨_, rfl⟩
  have q3 : (ex.toList == ([] : List UInt8)) = be := by rw [← hbe]; exact q3
  rw [hbe] at q2
  have HBE := Lib.hid hbe
  unfold retS foundE at HF
  obtain ⟨og, hog⟩ : ∃ o, getE l ex = o := ⟨_, rfl⟩
  rw [hog] at HF QR
  generalize posE l ex = pos at HF
  unfold enV rtV at HR
  unfold rtV
  clear h1 ha hk hn1 h2 hn2 h3 hQ hog
  go_enter Tryz.func19, Tryz.ntmps19
  go_upto_region 1 with fail
  refine name_world (C := fun w1 => Code.wp _ _ _ _ w1) (w.alloc (.cells [.slice A1 l.length c1, .slice A2 xs.length c2].toArray 25)) ?_
  intro w1 hw1
  have hb : Below w.heap.size w w1 := by rw [hw1]; exact S2.below_new w _
  have T_w1 : Hid (BK 25 w1 w.heap.size [.slice A1 l.length c1, .slice A2 xs.length c2]) := Lib.hid (by rw [hw1]; exact BK.new w _ _)
  have B_w1 := Lib.hid hb
  clear hw1 hb
  go_wp2_with fail
  refine (HK.out _).mono ?_
  rintro e w2 ⟨rfl, hw⟩
  have hw := hw.symm
  subst hw
  clear HK
  by_cases ht : tk = 0
  · subst ht
    go_wp2_with fail
    refine (HP.out _ (GL.step HPL.out B_w1.out)).mono ?_
    rintro e w2 ⟨rfl, hb⟩
    have T_w2 := Lib.hid (T_w1.out.step hb)
    have B_w2 := Lib.hid (stepB B_w1.out hb)
    clear hb HP T_w1 B_w1
    by_cases hp : pr = 0
    · subst hp
      cases be with
      | true =>
        have HQ : Hid (Q = (dk, 0)) := Lib.hid (by rw [QR.out, if_neg (by simp), if_neg (by simp), if_pos (of_decide_eq_true HBE.out)])
        go_wp2_with fail
        refine (HD.out _).mono ?_
        rintro e w3 ⟨v, rfl, ho, hb⟩
        have O_w3 := Lib.hid (OwnG.weak ho B_w2.out.size)
        have B_w3 := Lib.hid (stepB B_w2.out hb)
        clear ho hb
        go_wp2_with fail
        go_ret2
        exact RetRu.out HQ.out O_w3.out B_w3.out
      | false =>
        have QR2 : Hid (Q = if bn = false then (([], 11) : List ByteArray × Int) else ofQ og rr) := Lib.hid (by rw [QR.out, if_neg (by simp), if_neg (by simp), if_neg (of_decide_eq_false HBE.out)])
        clear QR
        go_wp2_with fail
        refine (HN.out _).mono ?_
        rintro e w3 ⟨rfl, hb⟩
        have T_w3 := Lib.hid (T_w2.out.step hb)
        have B_w3 := Lib.hid (stepB B_w2.out hb)
        clear hb T_w2 B_w2
        cases bn with
        | false =>
          have HQ : Hid (Q = ([], 11)) := Lib.hid (by rw [QR2.out, if_pos rfl])
          go_wp2_with fail
          go_ret2
          exact RetRu.out HQ.out (OwnG.nil _ _) B_w3.out
        | true =>
          have r0 := T_w3.out.cell 0 rfl
          go_wp2_with fail
          refine (HF.out _ (GL.step HE.out B_w3.out)).mono ?_
          rintro e w4 ⟨rfl, hb⟩
          have T_w4 := Lib.hid (T_w3.out.step hb)
          have B_w4 := Lib.hid (stepB B_w3.out hb)
          clear hb T_w3 B_w3 r0
          cases og with
          | none =>
            have HQ : Hid (Q = ([], 8)) := Lib.hid (by rw [QR2.out, if_neg (by decide)]; rfl)
            go_wp2_with fail
            go_ret2
            exact RetRu.out HQ.out (OwnG.nil _ _) B_w4.out
          | some x =>
            have HQ : Hid (Q = (compR (sortR rr), 0)) := Lib.hid (by rw [QR2.out, if_neg (by decide)]; rfl)
            have HLT := Lib.hid (S2.run_load_all T_w4.out Tryz.underlying25 rfl rtSize)
            clear QR2
            go_wp2_with (refine wpList_load_v (by rfl) 25 (.tmp 4) rfl ⟨w.heap.size, 0, none⟩ (by go_simp) _ HLT.out ?_)
            refine (HR.out _ (GL.step HE.out B_w4.out) (HX.out.step B_w4.out)).mono ?_
            rintro e w5 ⟨v, rfl, ho, hb⟩
            have HS := Lib.hid (sort_own ho HRL.out)
            have B_w5 := Lib.hid (stepB B_w4.out hb)
            have HSZ := Lib.hid B_w4.out.size
            clear ho hb T_w4 HLT HR
            go_wp2_with fail
            refine HS.out.mono ?_
            rintro e w6 ⟨rfl, ho, hb⟩
            have B_w6 := Lib.hid (B_w5.out.trans (hb.mono HSZ.out))
            have HCM := Lib.hid (compact_own ho (by rw [sortR_len]; exact HRL.out))
            clear ho hb HS B_w5
            go_wp2_with fail
            refine HCM.out.mono ?_
            rintro e w7 ⟨v7, rfl, ho, hb⟩
            have B_w7 := Lib.hid (B_w6.out.trans (hb.mono HSZ.out))
            have O_w7 := Lib.hid (OwnG.weak ho HSZ.out)
            clear ho hb HCM B_w6
            go_wp2_with fail
            go_ret2
            exact RetRu.out HQ.out O_w7.out B_w7.out
    · have HQ : Hid (Q = ([], (pr : Int))) := Lib.hid (by rw [QR.out, if_neg (by simp), if_pos hp])
      have q5 : ((pr : Int) != 0) = true := bne_iff_ne.2 (by omega)
      clear hp
      go_wp2_with fail
      go_ret2
      exact RetRu.out HQ.out (OwnG.nil _ _) B_w2.out
  · have HQ : Hid (Q = ([], tk)) := Lib.hid (by rw [QR.out, if_pos ht])
    have q5 : (tk != 0) = true := bne_iff_ne.2 ht
    clear ht
    go_wp2_with fail
    go_ret2
    exact RetRu.out HQ.out (OwnG.nil _ _) B_w1.out
end Go.Proofs.YtjkhfifnfgchgabGreatDoor
