/-
  What Set of message answers: the list with the value, or the error. Conditions: the list reads as data.
-/
import Derived.Test.YthpplhhlhheopabDoorSetP
import Derived.Test.YthpplhhlhheopabDoorPropP
namespace Go.Proofs.YthpplhhlhheopabDoor
open Go.RowKit

/-- a list of the call's own and an error's number are handed back -/
def RetSet (r : List PR × Nat) (W : World) (e : Ending) (w' : World) : Prop := ∃ v, e = .returned (.tuple #[v, .int .i64 r.2]) ∧ OwnP w' W.heap.size v r.1 ∧ Below W.heap.size W w'
theorem chkP_key {k v : ByteArray} (h : keyR k = false) : chkP k v = 16 := by unfold chkP; rw [if_pos h]
theorem chkP_val {k v : ByteArray} (h : ¬ keyR k = false) (h2 : 160 < v.size) : chkP k v = 5 := by unfold chkP; rw [if_neg h, if_pos h2]
theorem chkP_none {k v : ByteArray} (h : ¬ keyR k = false) (h2 : ¬ 160 < v.size) : chkP k v = 0 := by unfold chkP; rw [if_neg h, if_neg h2]

set_option maxRecDepth 20000 in
set_option maxHeartbeats 8000000 in
theorem set_any (A : Option Addr) (c : Nat) (l : List PR) (key value : ByteArray) (w : World) (hsl : PL w w.heap.size A l) :
    Calls Tryd.prog 51 #[.slice A l.length c, .string key, .string value] w (RetSet (setR l key value) w) := by
  have HS := Lib.hid hsl
  have CP := Lib.hid (props_any A c l w hsl)
  have CK := fun w => checkProp_any key value w
  unfold setR
  clear hsl
  by_cases h0 : propsR l ≠ 0
  · rw [if_pos h0]
    generalize propsR l = pr at h0 CP ⊢
    have q0 : ((pr : Int) != 0) = true := by simp; omega
    clear h0
    go_enter Tryd.func51, Tryd.ntmps51
    go_wp2_with fail
    refine CP.out.mono ?_
    rintro e w1 ⟨rfl, hb1⟩
    have HB1 := Lib.hid hb1
    clear hb1
    go_wp2
    go_ret2
    exact ⟨_, rfl, OwnG.nil _ _, HB1.out⟩
  rw [if_neg h0]
  have h0' : propsR l = 0 := by omega
  obtain ⟨hl8, hpw, _⟩ := propsR_parts h0'
  rw [h0'] at CP
  have HPW := Lib.hid hpw
  clear h0 h0' hpw
  by_cases h1 : keyR key = false
  · rw [if_pos h1]
    rw [chkP_key h1] at CK
    have HC := Lib.hid CK
    clear h1 CK
    go_enter Tryd.func51, Tryd.ntmps51
    go_wp2_with fail
    refine CP.out.mono ?_
    rintro e w1 ⟨rfl, hb1⟩
    have HB1 := Lib.hid hb1
    clear hb1
    go_wp2_with fail
    refine (HC.out _).mono ?_
    rintro e w2 ⟨rfl, hb2⟩
    have HB2 := Lib.hid (stepB HB1.out hb2)
    clear hb2
    go_wp2
    go_ret2
    exact ⟨_, rfl, OwnG.nil _ _, HB2.out⟩
  rw [if_neg h1]
  by_cases h2 : 160 < value.size
  · rw [if_pos (.inl h2)]
    rw [chkP_val h1 h2] at CK
    have HC := Lib.hid CK
    clear h1 h2 CK
    go_enter Tryd.func51, Tryd.ntmps51
    go_wp2_with fail
    refine CP.out.mono ?_
    rintro e w1 ⟨rfl, hb1⟩
    have HB1 := Lib.hid hb1
    clear hb1
    go_wp2_with fail
    refine (HC.out _).mono ?_
    rintro e w2 ⟨rfl, hb2⟩
    have HB2 := Lib.hid (stepB HB1.out hb2)
    clear hb2
    go_wp2
    go_ret2
    exact ⟨_, rfl, OwnG.nil _ _, HB2.out⟩
  rw [chkP_none h1 h2] at CK
  have HC := Lib.hid CK
  have HSR := Lib.hid (fun w h => search_any A c l key w h HPW.out.asc (by omega))
  have HCL := Lib.hid (fun w h => clone_any A c l w h (by omega))
  have hgf := getR_found (key := key) HPW.out
  rw [hgf]
  clear CK hgf
  unfold retS at HSR
  cases hf : foundK l key
  · have HNEW := Lib.hid (setL_new (value := value) HPW.out hf)
    have hpl := (pos_parts key l HPW.out).2.2
    rw [hf] at HSR
    by_cases h8 : l.length = 8
    · rw [if_pos (.inr ⟨h8, rfl⟩)]
      have q8 : ((l.length : Int) == 8) = true := by rw [h8]; rfl
      clear hf h1 h2 h8 hpl
      go_enter Tryd.func51, Tryd.ntmps51
      go_wp2_with fail
      refine CP.out.mono ?_
      rintro e w1 ⟨rfl, hb1⟩
      have HB1 := Lib.hid hb1
      clear hb1
      go_wp2_with fail
      refine (HC.out _).mono ?_
      rintro e w2 ⟨rfl, hb2⟩
      have HB2 := Lib.hid (stepB HB1.out hb2)
      clear hb2
      go_wp2_with fail
      refine (HSR.out _ (HS.out.step HB2.out)).mono ?_
      rintro e w3 ⟨rfl, hb3⟩
      have HB3 := Lib.hid (stepB HB2.out hb3)
      clear hb3
      go_wp2_with fail
      refine (HCL.out _ (HS.out.step HB3.out)).mono ?_
      rintro e w4 ⟨v, rfl, hown, hb4⟩
      have HB4 := Lib.hid (stepB HB3.out hb4)
      clear hb4 hown
      go_wp2
      go_ret2
      exact ⟨_, rfl, OwnG.nil _ _, HB4.out⟩
    · rw [if_neg (fun h => h.elim h2 (fun h => h8 h.1))]
      have q8 : ((l.length : Int) == 8) = false := by simp; omega
      rw [HNEW.out]
      have HIN := Lib.hid (fun v W B vb h1 h2 h3 h4 => insert_any v l (posK l key) (key, value) W B vb h1 h2 h3 h4 hpl (by omega))
      generalize insP l (posK l key) (key, value) = R at HIN ⊢
      clear HNEW
      generalize posK l key = pk at HSR HIN
      clear hf h1 h2 h8 hpl
      go_enter Tryd.func51, Tryd.ntmps51
      go_wp2_with fail
      refine CP.out.mono ?_
      rintro e w1 ⟨rfl, hb1⟩
      have HB1 := Lib.hid hb1
      clear hb1
      go_wp2_with fail
      refine (HC.out _).mono ?_
      rintro e w2 ⟨rfl, hb2⟩
      have HB2 := Lib.hid (stepB HB1.out hb2)
      clear hb2
      go_wp2_with fail
      refine (HSR.out _ (HS.out.step HB2.out)).mono ?_
      rintro e w3 ⟨rfl, hb3⟩
      have HB3 := Lib.hid (stepB HB2.out hb3)
      clear hb3
      go_wp2_with fail
      refine (HCL.out _ (HS.out.step HB3.out)).mono ?_
      rintro e w4 ⟨v, rfl, hown, hb4⟩
      have HB4 := Lib.hid (stepB HB3.out hb4)
      have HO4 := Lib.hid (OwnG.weak hown HB3.out.size)
      clear hb4 hown
      go_wp2_with fail
      refine (HIN.out v (w4.alloc (.cells #[.string key, .string value] 35)) w.heap.size w4.heap.size (HO4.out.alloc _) (heap_alloc_new w4 _) (fun q n c e => ?_) (by have := HB4.out.size; simp; omega)).mono ?_
      · have := World.ownsRow.lt HO4.out q (by rw [e]; rfl)
        omega
      rintro e w5 ⟨v5, rfl, hown5, hb5⟩
      have HB5 := Lib.hid ((HB4.out.alloc HB4.out.size (.cells #[.string key, .string value] 35)).trans hb5)
      have HO5 := Lib.hid hown5
      clear hb5 hown5
      go_wp2
      go_ret2
      exact ⟨_, rfl, HO5.out, HB5.out⟩
  · rw [if_neg (fun h => h.elim h2 (fun h => Bool.noConfusion h.2))]
    obtain ⟨x, hx, he⟩ := foundK_some hf
    have hpl : posK l key < l.length := (List.getElem?_eq_some_iff.1 hx).1
    have HLS : Hid (setL l key value = l.set (posK l key) (x.1, value)) := Lib.hid (by rw [setL_found HPW.out hx he, he, set_eq hx])
    rw [hf] at HSR
    rw [HLS.out]
    have HX := Lib.hid hx
    clear HLS hx he
    generalize posK l key = pk at HSR HX hpl ⊢
    have d0 : (0 : Int) ≤ (pk : Int) := by omega
    have d1 : (pk : Int) < (l.length : Int) := by omega
    clear hf h1 h2
    go_enter Tryd.func51, Tryd.ntmps51
    go_wp2_with fail
    refine CP.out.mono ?_
    rintro e w1 ⟨rfl, hb1⟩
    have HB1 := Lib.hid hb1
    clear hb1
    go_wp2_with fail
    refine (HC.out _).mono ?_
    rintro e w2 ⟨rfl, hb2⟩
    have HB2 := Lib.hid (stepB HB1.out hb2)
    clear hb2
    go_wp2_with fail
    refine (HSR.out _ (HS.out.step HB2.out)).mono ?_
    rintro e w3 ⟨rfl, hb3⟩
    have HB3 := Lib.hid (stepB HB2.out hb3)
    clear hb3
    go_wp2_with fail
    refine (HCL.out _ (HS.out.step HB3.out)).mono ?_
    rintro e w4 ⟨v, rfl, hown, hb4⟩
    have HB4 := Lib.hid (stepB HB3.out hb4)
    have HO4 := Lib.hid (OwnG.weak hown HB3.out.size)
    obtain ⟨q, cap, hv⟩ : ∃ q cap, v = .slice (some ⟨q, 0, none⟩) l.length cap := by
      rcases hown.2 with ⟨_, h0⟩ | ⟨q, cap, cur, h, _⟩
      · omega
      · exact ⟨q, cap, h⟩
    subst hv
    have k1 : w4.cell? ⟨q, pk * 2 + 1, none⟩ = some (.string x.2) := by
      rw [World.ownsRow.cellAt hown (pk * 2 + 1) (by omega), flat_at gP_len l pk x 1 HX.out (by omega)]; rfl
    have f1 : w4.frozen? ⟨q, pk * 2 + 1, none⟩ = false := World.ownsRow.frozenAt hown _
    have hst := World.ownsRow.stored HO4.out (pk * 2 + 1) (.string value)
    rw [flat_set l pk x value HX.out] at hst
    have HO5 : Hid (OwnP (w4.setCell ⟨q, pk * 2 + 1, none⟩ (.string value)) w.heap.size (.slice (some ⟨q, 0, none⟩) l.length cap) (l.set pk (x.1, value))) := Lib.hid (by
      have := hst.1
      unfold OwnP OwnG
      rwa [List.length_set])
    have HB5 : Hid (Below w.heap.size w (w4.setCell ⟨q, pk * 2 + 1, none⟩ (.string value))) := Lib.hid (HB4.out.setCell (World.ownsRow.lt HO4.out q rfl).1 _)
    clear hb4 hown hst hpl
    go_wp2
    go_ret2
    exact ⟨_, rfl, HO5.out, HB5.out⟩

end Go.Proofs.YthpplhhlhheopabDoor
