/-
  What Arm of will answers. Conditions: the list and the will read as data; few wills, with few properties; the instants are not beyond the largest one.
-/
import Derived.Test.YtoakhkiiefiebabDoorDe
namespace Go.Proofs.YtoakhkiiefiebabDoor
open Go.RowKit
open S2 (BK Put)

/-- a list that a call answers -/
def RetD1 (L : List Du) (W : World) (E : Ending) (w' : World) : Prop := ∃ A c ys, E = .returned (.slice A (List.length (α := DE) ys) c) ∧ ys.map DE.d = L ∧ ys.length ≤ c ∧ DI w' w'.heap.size A ys ∧ Below W.heap.size W w'
/-- where a will comes into a list -/
def insD (r : List Du) (x : Du) : List Du := r.take (posD r x) ++ [x] ++ r.drop (posD r x)
def newDu (cl : ByteArray) (d : Int) (m : Msg) (now : Int) : Du := ⟨cl, min (now + d) 1099511627776, m⟩
def armR (l : List Du) (cl : ByteArray) (s : Bool) (d : Int) (m : Msg) (now : Int) : List Du := if s = false then canR l cl else insD (canR l cl) (newDu cl d m now)

set_option maxRecDepth 20000 in
set_option maxHeartbeats 4000000 in
theorem wArm_any (A : Option Addr) (c : Nat) (xs : List DE) (cl : ByteArray) (s : Bool) (d : Int) (m : Msg) (am : Option Addr) (cm : Nat) (now : Int) (w : World) (hsl : DI w w.heap.size A xs) (hn : xs.length ≤ 80000) (hp : ∀ x ∈ xs, x.d.m.props.length ≤ 4398046511104) (hm : PL w w.heap.size am m.props) (hpm : m.props.length ≤ 4398046511104)
    (hb0 : 0 ≤ now ∧ now ≤ 1099511627776) (hb1 : s = true → 0 ≤ d ∧ d ≤ 1099511627776) (ha : s = true → AscD (canR (xs.map DE.d) cl)) :
    Calls Tryd.prog 6 #[.slice A xs.length c, .string cl, wiV s d m am cm, .int .i64 now] w (RetD1 (armR (xs.map DE.d) cl s d m now) w) := by
  have HCA := Lib.hid (fun w1 h => wCancel_any A c xs cl w1 h (by omega) hp)
  have HS := Lib.hid hsl
  have HM := Lib.hid hm
  have HPM := Lib.hid hpm
  have HB1 := Lib.hid hb1
  have HA := Lib.hid ha
  have hle : (canR (xs.map DE.d) cl).length ≤ 80000 := by
    have h1 : (canR (xs.map DE.d) cl).length ≤ (xs.map DE.d).length := by unfold canR; rw [List.length_eraseIdx]; split <;> omega
    rw [List.length_map] at h1; omega
  have hpr : ∀ x ∈ canR (xs.map DE.d) cl, x.m.props.length ≤ 4398046511104 := fun x hx => by
    obtain ⟨y, hy, rfl⟩ := List.mem_map.1 (List.mem_of_mem_eraseIdx hx)
    exact hp y hy
  have HPR := Lib.hid hpr
  have HLE := Lib.hid hle
  obtain ⟨r, hr⟩ : ∃ r, canR (xs.map DE.d) cl = r := ⟨_, rfl⟩
  obtain ⟨R, hR⟩ : ∃ R, armR (xs.map DE.d) cl s d m now = R := ⟨_, rfl⟩
  rw [hR]
  have HR : Hid ((if s = false then r else insD r (newDu cl d m now)) = R) := Lib.hid (by rw [← hR, ← hr]; rfl)
  rw [hr] at HA HPR HLE
  have HRR := Lib.hid hr
  clear hsl hm hpm ha hle hpr hr hR hp hb1 hn
  go_enter Tryd.func6, Tryd.ntmps6
  go_upto_region 1 with fail
  refine name_world (C := fun w1 => Code.wp _ _ _ _ w1) (w.alloc (.cells (wiC s d m am cm).toArray 29)) ?_
  intro w1 hw1
  have hb1 : Below w.heap.size w w1 := by rw [hw1]; exact S2.below_new w _
  have V_w1 : Hid (BK 29 w1 w.heap.size (wiC s d m am cm)) := Lib.hid (by rw [hw1]; exact BK.new w _ _)
  have B_w1 := Lib.hid hb1
  clear hw1 hb1
  go_wp2_with fail
  refine (HCA.out w1 (HS.out.step B_w1.out)).mono ?_
  rintro e w2 ⟨v2, ys, rfl, hys, hl2, hb⟩
  rw [HRR.out] at hys
  obtain ⟨A2, c2, rfl, hc2, hmi⟩ := lstDI hl2
  have V_w2 := Lib.hid (V_w1.out.step hb)
  have B_w2 := Lib.hid (stepB B_w1.out hb)
  have Y_w2 := Lib.hid hmi
  have HY := Lib.hid (And.intro hys hc2)
  generalize hasR (xs.map DE.d) cl = hh
  have d0 := V_w2.out.cell 0 rfl
  have d1 := V_w2.out.cell 1 rfl
  have HLM := Lib.hid (load_wi_msg V_w2.out)
  unfold msgV at HLM
  have hyl : ys.length ≤ 80000 := by have h1 := congrArg List.length hys; rw [List.length_map] at h1; rw [h1]; exact HLE.out
  have HYL := Lib.hid hyl
  clear hb hl2 hmi hys hc2 V_w1 B_w1 HCA hyl
  cases s with
  | false =>
    have HRF : Hid (r = R) := Lib.hid (by have := HR.out; rwa [if_pos rfl] at this)
    go_wp2_with fail
    go_ret
    exact ⟨A2, c2, ys, rfl, by rw [HY.out.1, HRF.out], HY.out.2, Y_w2.out, B_w2.out⟩
  | true =>
    obtain ⟨x, hx⟩ : ∃ x : DE, x = ⟨newDu cl d m now, am, cm⟩ := ⟨_, rfl⟩
    have hdb := HB1.out rfl
    obtain ⟨at_, hat⟩ : ∃ a : Int, min (now + d) 1099511627776 = a := ⟨_, rfl⟩
    have HX : Hid (x.d = ⟨cl, at_, m⟩ ∧ x.a = am ∧ x.c = cm) := Lib.hid (by rw [hx, ← hat]; exact ⟨rfl, rfl, rfl⟩)
    have HXN : Hid (x.d = newDu cl d m now) := Lib.hid (by rw [hx])
    have HGX : Hid (gD x = [.string cl, .int .i64 at_, .string m.topic, .string m.payload, .int .i64 m.level, .bool m.retain, .int .i64 m.prio, .int .i64 m.exps, .string m.frm, .int .i64 m.seq, .slice am m.props.length cm]) := Lib.hid (by rw [hx, ← hat]; rfl)
    have HRT : Hid (insD r x.d = R) := Lib.hid (by have := HR.out; rw [if_neg (by simp)] at this; rw [HXN.out]; exact this)
    have HXP : Hid (PL w w.heap.size x.a x.d.m.props) := Lib.hid (by rw [HX.out.2.1, HX.out.1]; exact HM.out)
    have hwr : wrap64 (now + d) = now + d := S2.wrap64_id _ (by omega) (by omega)
    clear hx
    go_upto_region 5 with first
      | (refine wpList_load_v (by rfl) 27 _ rfl ⟨w.heap.size, 2, none⟩ (by first | rfl | go_simp) _ HLM.out ?_)
    refine name_world (C := fun w3 => Code.wp _ _ _ _ w3) (w2.alloc (.cells ([.string cl, .int .i64 at_, .string m.topic, .string m.payload, .int .i64 m.level, .bool m.retain, .int .i64 m.prio, .int .i64 m.exps, .string m.frm, .int .i64 m.seq, .slice am m.props.length cm] : List Value).toArray 45)) ?_
    intro w3 hw3
    have hb : Below w2.heap.size w2 w3 := by rw [hw3]; exact S2.below_new w2 _
    have X_w3 : Hid (BK 45 w3 w2.heap.size (gD x)) := Lib.hid (by rw [HGX.out, hw3]; exact BK.new w2 _ _)
    have Y_w3 := Lib.hid (Y_w2.out.step hb)
    have B_w3 := Lib.hid (stepB B_w2.out hb)
    clear hw3 hb Y_w2 B_w2
    have HSE := Lib.hid (fun w1 h => searchD_any A2 c2 ys x w1 h (by rw [HY.out.1]; first | exact HA.out rfl | exact HA.out trivial) (by have := HYL.out; omega))
    rw [HY.out.1] at HSE
    obtain ⟨pk, hpk⟩ : ∃ p, posD r x.d = p := ⟨_, rfl⟩
    rw [hpk] at HSE
    obtain ⟨ts, hts⟩ : ∃ ts, ts = ys.take pk := ⟨_, rfl⟩
    obtain ⟨ds, hds⟩ : ∃ ds, ds = ys.drop pk := ⟨_, rfl⟩
    have hpl : pk ≤ ys.length := by
      have h1 := posD_le r x.d
      rw [hpk, ← HY.out.1, List.length_map] at h1; exact h1
    have htl : ts.length = pk := by rw [hts, List.length_take]; omega
    obtain ⟨AD, hAD⟩ : ∃ AD, AD = (if c2 = pk then A2 else A2.map (·.add (pk * 11))) := ⟨_, rfl⟩
    obtain ⟨cd, hcd⟩ : ∃ cd, cd = c2 - pk := ⟨_, rfl⟩
    have HTS : Hid (∀ w1, DI w1 w1.heap.size A2 ys → DI w1 w1.heap.size A2 ts) := Lib.hid (fun w1 h => by rw [hts]; exact LI.take h pk)
    have HDS : Hid (∀ w1, DI w1 w1.heap.size A2 ys → DI w1 w1.heap.size AD ds) := Lib.hid (fun w1 h => by rw [hAD, hds]; exact LI.drop h hpl HY.out.2)
    have HDE : Hid (Value.slice AD ds.length cd = .slice (if c2 = pk then A2 else A2.map (·.add (pk * 11))) (ys.length - pk) (c2 - pk)) := Lib.hid (by rw [hAD, hcd, hds, List.length_drop])
    have HMM : Hid (ts.map DE.d ++ [x.d] ++ ds.map DE.d = R) := Lib.hid (by rw [← HRT.out, hts, hds, List.map_take, List.map_drop, HY.out.1]; unfold insD; rw [hpk])
    have HPB : Hid (pk ≤ ys.length ∧ ts.length ≤ 80000 ∧ ts.length + ds.length ≤ 80000) := Lib.hid ⟨hpl, by rw [htl]; have := HYL.out; omega, by rw [htl, hds, List.length_drop]; have := HYL.out; omega⟩
    have HPS : Hid (∀ y, y ∈ ts ∨ y ∈ ds → y.d.m.props.length ≤ 4398046511104) := Lib.hid (fun y hy => by
      have hy2 : y ∈ ys := by
        rcases hy with hy | hy
        · rw [hts] at hy; exact List.mem_of_mem_take hy
        · rw [hds] at hy; exact List.mem_of_mem_drop hy
      exact HPR.out y.d (by rw [← HY.out.1]; exact List.mem_map_of_mem hy2))
    have HXL : Hid (x.d.m.props.length ≤ 4398046511104) := Lib.hid (by rw [HX.out.1]; exact HPM.out)
    subst htl
    have k1 : (0 : Int) ≤ (ts.length : Int) := by omega
    have k2 : (ts.length : Int) ≤ (c2 : Int) := by have := HPB.out.1; have := HY.out.2; omega
    have k3 : (ts.length : Int) ≤ (ys.length : Int) := by have := HPB.out.1; omega
    have HCLO := Lib.hid (fun A c zs w1 h h1 h2 => dClone_any A c zs w1 h h1 h2)
    clear hpk hts hds hpl hAD hcd hat hwr hdb d0 d1
    unfold dV at HSE
    go_wp2_with first
      | (refine wpList_load_v (by rfl) 45 (.tmp 11) rfl ⟨w2.heap.size, 0, none⟩ rfl (.agg (gD x).toArray) (S2.run_load_all X_w3.out Tryd.underlying45 rfl dueSize) ?_)
    refine (HSE.out w3 Y_w3.out).mono ?_
    rintro e w4 ⟨bf, rfl, hb⟩
    have X_w4 := Lib.hid (X_w3.out.step hb)
    have Y_w4 := Lib.hid (Y_w3.out.step hb)
    have B_w4 := Lib.hid (stepB B_w3.out hb)
    clear hb X_w3 Y_w3 B_w3 HSE
    go_upto_region 6 with fail
    obtain ⟨z1, hz1⟩ : ∃ z1, z1 = World.drew w4 := ⟨_, rfl⟩
    have hbD : Below w4.heap.size w4 z1 := by rw [hz1]; exact (Below.refl _ _).drew
    have X_z1 : Hid (BK 45 z1 w2.heap.size (gD x)) := Lib.hid (X_w4.out.step hbD)
    have Y_z1 : Hid (DI z1 z1.heap.size A2 ys) := Lib.hid (LI.step Y_w4.out hbD)
    have B_z1 : Hid (Below w.heap.size w z1) := Lib.hid (stepB B_w4.out hbD)
    clear X_w4 Y_w4 B_w4
    have hbd : (fun w' => BK 45 w' w2.heap.size (gD x)) (World.drew w4) := by rw [← hz1]; exact X_z1.out
    have hSD : (fun w' => BK 45 w' w2.heap.size (gD x)) z1 := X_z1.out
    have HWD := Lib.hid hz1
    clear hz1 hbD
    refine wp_region_held_drew (S := fun w' => BK 45 w' w2.heap.size (gD x)) (by kernel_rfl) hbd (fun hHeld => ?_)
    rw [← HWD.out]
    clear hHeld
    have hHeld := hSD
    clear hSD hbd HWD
    refine wpAnyH_take (i := 0) (v := .slice A2 ys.length c2) (get_ops _ _ _ rfl) (by kernel_rfl) (by kernel_rfl) (by kernel_rfl) (fun _ _ _ h => h) (Or.inl ⟨by rfl, fun wS hSw => by (try dsimp only at hSw); go_simp⟩) hHeld ?_
    try simp only [Act.put, List.setIfInBounds_toArray, List.set_cons_zero, List.set_cons_succ]
    refine wpAnyH_take (i := 1) (v := .int .i64 ts.length) (get_ops _ _ _ rfl) (by kernel_rfl) (by kernel_rfl) (by kernel_rfl) (fun _ _ _ h => h) (Or.inl ⟨by rfl, fun wS hSw => by (try dsimp only at hSw); go_simp⟩) hHeld ?_
    try simp only [Act.put, List.setIfInBounds_toArray, List.set_cons_zero, List.set_cons_succ]
    refine wpAnyH_take (i := 2) (v := .int .i64 ts.length) (get_ops _ _ _ rfl) (by kernel_rfl) (by kernel_rfl) (by kernel_rfl) (fun _ _ _ h => h) (Or.inl ⟨by rfl, fun wS hSw => by (try dsimp only at hSw); go_simp⟩) hHeld ?_
    try simp only [Act.put, List.setIfInBounds_toArray, List.set_cons_zero, List.set_cons_succ]
    refine wpAnyH_take (i := 3) (v := .slice A2 ts.length ts.length) (get_ops _ _ _ rfl) (by kernel_rfl) (by kernel_rfl) (by kernel_rfl) (fun _ _ _ h => h) (Or.inl ⟨by rfl, fun wS hSw => by (try dsimp only at hSw); go_simp⟩) hHeld ?_
    try simp only [Act.put, List.setIfInBounds_toArray, List.set_cons_zero, List.set_cons_succ]
    refine wpAnyH_take (i := 4) (v := .slice A2 ys.length c2) (get_ops _ _ _ rfl) (by kernel_rfl) (by kernel_rfl) (by kernel_rfl) (fun _ _ _ h => h) (Or.inl ⟨by rfl, fun wS hSw => by (try dsimp only at hSw); go_simp⟩) hHeld ?_
    try simp only [Act.put, List.setIfInBounds_toArray, List.set_cons_zero, List.set_cons_succ]
    refine wpAnyH_take (i := 5) (v := .int .i64 ts.length) (get_ops _ _ _ rfl) (by kernel_rfl) (by kernel_rfl) (by kernel_rfl) (fun _ _ _ h => h) (Or.inl ⟨by rfl, fun wS hSw => by (try dsimp only at hSw); go_simp⟩) hHeld ?_
    try simp only [Act.put, List.setIfInBounds_toArray, List.set_cons_zero, List.set_cons_succ]
    refine wpAnyH_take (i := 6) (v := (.slice AD ds.length cd)) (get_ops _ _ _ rfl) (by kernel_rfl) (by kernel_rfl) (by kernel_rfl) (fun _ _ _ h => h) (Or.inl ⟨by rfl, fun wS hSw => by (try dsimp only at hSw); rw [HDE.out]; go_simp⟩) hHeld ?_
    try simp only [Act.put, List.setIfInBounds_toArray, List.set_cons_zero, List.set_cons_succ]
    refine wpAnyH_take (i := 7) (v := .slice A2 ts.length ts.length) (get_ops _ _ _ rfl) (by kernel_rfl) (by kernel_rfl) (by kernel_rfl) (fun _ _ _ h => h) (Or.inl ⟨by rfl, fun wS hSw => by (try dsimp only at hSw); go_simp⟩) hHeld ?_
    try simp only [Act.put, List.setIfInBounds_toArray, List.set_cons_zero, List.set_cons_succ]
    refine wpAnyH_take (i := 8) (v := (.slice AD ds.length cd)) (get_ops _ _ _ rfl) (by kernel_rfl) (by kernel_rfl) (by kernel_rfl) (fun _ _ _ h => h) (Or.inl ⟨by rfl, fun wS hSw => by (try dsimp only at hSw); go_simp⟩) hHeld ?_
    try simp only [Act.put, List.setIfInBounds_toArray, List.set_cons_zero, List.set_cons_succ]
    refine wpAnyH_done (by kernel_rfl) ?_ _
    go_wp2_with first
      | (refine wpList_load_v (by rfl) 45 (.tmp 11) rfl ⟨w2.heap.size, 0, none⟩ rfl (.agg (gD x).toArray) (S2.run_load_all X_z1.out Tryd.underlying45 rfl dueSize) ?_; simp only [gD])
      | (at_builtin; refine wpList_cut1 gD_len gD_one (by decide) z1 rfl _ _ 23 rfl (.agg (gD DE.zero).toArray) 136 Tryd.underlying23 dueInfo rfl (by decide) A2 ts x (by rfl) (HTS.out _ Y_z1.out).1 (by rfl) (by have := HPB.out; omega) ?_; intro v6 w6 hown6 hb6 hs6; have O_w6 := Lib.hid hown6; have C_w6 := Lib.hid hb6; clear hown6 hb6 hs6)
      | (at_builtin; refine wpList_appG (g := gD) (k := 11) (e := 45) (by decide) w6 rfl _ _ 23 23 rfl (.agg (gD DE.zero).toArray) 136 Tryd.underlying23 dueInfo rfl (by decide) z1.heap.size _ (ts ++ [x]) ds rfl O_w6.out _ rfl (GL.src gD_len gD_one ((HDS.out _ Y_z1.out).1.step C_w6.out) Tryd.underlying23 cd) z1 C_w6.out C_w6.out.size (by have := HPB.out; simp; omega) ?_; intro v7 w7 hown7 hb7 hs7)
    obtain ⟨A7, c7, hv7, hc7, hgl7⟩ := OwnG.ret gD_len hown7
    subst hv7
    have D_w7 : Hid (DI w7 w7.heap.size A7 (ts ++ [x] ++ ds)) := Lib.hid ⟨hgl7, fun y hy => by
      rcases List.mem_append.1 hy with hy | hy
      · rcases List.mem_append.1 hy with hy | hy
        · exact ((HTS.out _ Y_z1.out).2 y hy).step hb7
        · simp at hy; subst hy; exact GL.step HXP.out (stepB B_z1.out hb7)
      · exact ((HDS.out _ Y_z1.out).2 y hy).step hb7⟩
    have B_w7 := Lib.hid (stepB B_z1.out hb7)
    have CC := Lib.hid (HCLO.out A7 c7 _ w7 D_w7.out (by have := HPB.out; simp; omega) (fun y hy => by
      rcases List.mem_append.1 hy with hy | hy
      · rcases List.mem_append.1 hy with hy | hy
        · exact HPS.out y (Or.inl hy)
        · simp at hy; subst hy; exact HXL.out
      · exact HPS.out y (Or.inr hy)))
    have HMM2 : Hid ((ts ++ [x] ++ ds).map DE.d = R) := Lib.hid (by rw [← HMM.out]; simp)
    rw [HMM2.out] at CC
    clear hown7 hb7 hs7 hc7 hgl7 D_w7
    generalize ts ++ [x] ++ ds = ls at CC ⊢
    go_wp2_with fail
    refine CC.out.mono ?_
    rintro e w8 ⟨v8, zs, rfl, hzs, hl8, hb⟩
    obtain ⟨A8, c8, rfl, hc8, hmi8⟩ := lstDI hl8
    have Z8 := Lib.hid (And.intro hzs (And.intro hc8 hmi8))
    have B_w8 := Lib.hid (stepB B_w7.out hb)
    clear hzs hc8 hmi8 hl8 hb
    go_wp2
    go_ret
    exact ⟨A8, c8, zs, rfl, Z8.out.1, Z8.out.2.1, Z8.out.2.2, B_w8.out⟩
end Go.Proofs.YtoakhkiiefiebabDoor
