/-
  What a call of the law answers: both sides agree, and the queue stays valid. Conditions: the queue and the call read as data; the texts fit; the library's bound on short texts holds a number.
-/
import Derived.Test.YtjhojpghllnoiaaDoorQbF
namespace Go.Proofs.YtjhojpghllnoiaaDoor
open Go.RowKit
open S2 (BK Put get_ops)

theorem load_oqm3 {w : World} {g : Nat} {k t n : Int} {m : Msg} {ma : Option Addr} {mc : Nat} {x : En} {xa : Option Addr} {xc : Nat} (h : BK 36 w g (oqC k t n m ma mc x xa xc)) : (loadVar 32 ⟨g, 3, none⟩).run Tryd.prog w = .ok (.agg (msgC m ma mc).toArray) w :=
  run_load_cells w g 3 (msgC m ma mc) 32 _ (fun i v hv => by
    refine h.cell (3 + i) ?_
    match i, hv with
    | 0, hv => exact hv
    | 1, hv => exact hv
    | 2, hv => exact hv
    | 3, hv => exact hv
    | 4, hv => exact hv
    | 5, hv => exact hv
    | 6, hv => exact hv
    | 7, hv => exact hv
    | 8, hv => exact hv) Tryd.underlying32 rfl msgSize
theorem load_oqe3 {w : World} {g : Nat} {k t n : Int} {m : Msg} {ma : Option Addr} {mc : Nat} {x : En} {xa : Option Addr} {xc : Nat} (h : BK 36 w g (oqC k t n m ma mc x xa xc)) : (loadVar 34 ⟨g, 12, none⟩).run Tryd.prog w = .ok (.agg (enX x xa xc).toArray) w :=
  run_load_cells w g 12 (enX x xa xc) 34 _ (fun i v hv => by
    refine h.cell (12 + i) ?_
    match i, hv with
    | 0, hv => exact hv
    | 1, hv => exact hv
    | 2, hv => exact hv
    | 3, hv => exact hv
    | 4, hv => exact hv
    | 5, hv => exact hv
    | 6, hv => exact hv
    | 7, hv => exact hv
    | 8, hv => exact hv
    | 9, hv => exact hv
    | 10, hv => exact hv
    | 11, hv => exact hv) Tryd.underlying34 rfl enSize
/-- the texts of an entry fit -/
abbrev EzY (x : En) : Prop := x.m.topic.size ≤ 9223372036854775807 ∧ x.m.frm.size ≤ 9223372036854775807 ∧ ∀ z ∈ x.m.props, z.1.size ≤ 9223372036854775807
theorem entP {x : En} {n : Int} (h : entR x n = 0) : x.m.props.length ≤ 4398046511104 := by
  have := propsR_parts (checkR_parts (entR_parts h).2.2.2)
  have := this.1
  omega
theorem ezY_ins {l : List En} {x : En} (h : ∀ y ∈ l, EzY y) (hx : EzY x) : ∀ y ∈ insQ l x, EzY y := fun y hy => by
  rcases mem_insQ.1 hy with rfl | hy
  · exact hx
  · exact h y hy
theorem valid_push2 {s : Sp} {n : Int} {l : List En} {m : Msg} {now : Int} (h : validR s n l = 0) (hl : l.length ≤ 4000) (hk : pushK s n l.length m now = 0) : validR s (n + 1) (insQ l (pushE n now m)) = 0 := by
  obtain ⟨h1, h2, h3, h4, h5, h6⟩ := validR_parts h
  unfold pushK at hk
  by_cases c1 : checkR m ≠ 0
  · rw [if_pos c1] at hk
    omega
  rw [if_neg c1] at hk
  cases c2 : inR now 0 1099511627776 with
  | false =>
    rw [c2, if_pos rfl] at hk
    omega
  | true =>
    rw [c2, if_neg (by decide)] at hk
    by_cases c3 : s.max ≤ (l.length : Int) ∨ 1099511627776 ≤ n
    · rw [if_pos c3] at hk
      omega
    refine valid_ins h (by omega) (by omega) (entR_zero (x := pushE n now m) ⟨h2.1, by show n ≤ n + 1 - 1; omega⟩ (inR_iff.1 c2) ⟨by show (0 : Int) ≤ 0; omega, by show (0 : Int) ≤ _; omega⟩ (by show checkR m = 0; omega)) (fun a ha e => ?_) (by omega)
    have h7 := (entR_parts (h4 a ha)).1
    have e2 : a.k = n := e
    omega
theorem valid_ret2 {s : Sp} {n : Int} {l : List En} {x : En} (h : validR s n l = 0) (hl : l.length ≤ 4000) (hk : retK n l x = 0) : validR s n (insQ l x) = 0 := by
  obtain ⟨h1, h2, h3, h4, h5, h6⟩ := validR_parts h
  unfold retK at hk
  by_cases c1 : entR x n ≠ 0
  · rw [if_pos c1] at hk
    exact absurd hk c1
  rw [if_neg c1] at hk
  cases c2 : hasQ l x.k with
  | true =>
    rw [c2, if_pos rfl] at hk
    omega
  | false => exact valid_ins h (Int.le_refl _) h2.2 (Decidable.not_not.1 c1) (hasQ_false c2) (by omega)
theorem res_ctt {P : Program} {fn : Func} {p q r : Tmp} {ty : TypeId} (h : fn.results = #[.cell p ty, .tmp q, .tmp r]) (tmps : Array Value) (w : World) (g : Nat) (t : TypeId) (vs : List Value) (d : TypeDesc) (v u : Value)
    (hp : tmps.getD p undef = .pointer (some ⟨g, 0, none⟩)) (hq : tmps.getD q undef = v) (hr : tmps.getD r undef = u) (hg : BK t w g vs)
    (hu : P.underlying ty = some d) (hd : (match d with | .struct _ | .array _ _ => true | _ => false) = true) (hi : (P.info? ty).map (·.size) = some vs.length) :
    (results fn tmps).run P w = .ok (.tuple #[.agg vs.toArray, v, u]) w := by
  have hp' : tmps[p]?.getD undef = .pointer (some ⟨g, 0, none⟩) := by simpa using hp
  have hq' : tmps[q]?.getD undef = v := by simpa using hq
  have hr' : tmps[r]?.getD undef = u := by simpa using hr
  simp [results, h, hp', hq', hr', asAddr, S2.run_load_all hg hu hd hi]
/-- the entries that a call hands out: none, or one in a block of its own -/
def OutS (B : Nat) (w : World) (v : Value) (xs : List EE) : Prop := (v = .slice none 0 0 ∧ xs = []) ∨ ∃ b y, v = .slice (some ⟨b, 0, none⟩) 1 1 ∧ xs = [y] ∧ BK 34 w b (gE y) ∧ B ≤ b ∧ PN w B y.a y.x.m.props ∧ EzY y.x
def RetSt (s : Sp) (A : Option Addr) (l : List EE) (W : World) (E : Ending) (w' : World) : Prop := ∃ n' A2 c2 ys v xs, E = .returned (.tuple #[quV s n' (.slice A2 ys.length c2), v, .bool true]) ∧ validR s n' (ys.map EE.x) = 0 ∧ ys.length ≤ l.length + 1 ∧ (∀ y ∈ ys.map EE.x, EzY y) ∧ ys.length ≤ c2 ∧ (EN w' W.heap.size A2 ys ∨ A2 = A ∧ ys = l ∧ xs = []) ∧ OutS W.heap.size w' v xs ∧ Below W.heap.size W w'
set_option maxRecDepth 20000 in
set_option maxHeartbeats 64000000 in
theorem step_any (s : Sp) (n : Int) (A : Option Addr) (c : Nat) (l : List EE) (kd now nn : Int) (m : Msg) (ma : Option Addr) (mc : Nat) (x : En) (xa : Option Addr) (xc : Nat) (w : World) (hw : S1.Okw w) (hsl : EI w w.heap.size A l) (hc : l.length ≤ c) (hv : validR s n (l.map EE.x) = 0) (hl : l.length ≤ 200) (hez : ∀ y ∈ l.map EE.x, EzY y)
    (hm : PL w w.heap.size ma m.props) (hx : PL w w.heap.size xa x.m.props) (hmz : m.topic.size ≤ 9223372036854775807 ∧ m.frm.size ≤ 9223372036854775807 ∧ ∀ z ∈ m.props, z.1.size ≤ 9223372036854775807) (hmp : m.props.length ≤ 4398046511104) (hxz : EzY x) :
    Calls Tryd.prog 10 #[quV s n (.slice A l.length c), .agg (oqC kd now nn m ma mc x xa xc).toArray] w (RetSt s A l w) := by
  have HO := Lib.hid hw
  have HS := Lib.hid hsl
  have HV := Lib.hid hv
  have HL := Lib.hid hl
  have HEZ := Lib.hid hez
  have HCL := Lib.hid hc
  have HMP := Lib.hid hm
  have HXP := Lib.hid hx
  have HMZ := Lib.hid hmz
  have HXZ := Lib.hid hxz
  have HMN := Lib.hid hmp
  have HVP := Lib.hid (validR_parts hv)
  have HPP : Hid (∀ y ∈ l, y.x.m.props.length ≤ 4398046511104) := Lib.hid (fun y hy => entP ((validR_parts hv).2.2.2.1 _ (List.mem_map_of_mem hy)))
  have HLM : Hid ((l.map EE.x).length ≤ 200) := Lib.hid (by rw [List.length_map]; exact hl)
  clear hw hsl hv hl hez hc hm hx hmz hxz hmp
  have HSAM : Hid (∀ (s' : Sp) (n' : Int) (D : Option Addr) (d : Nat) (ys : List EE) (D' : Option Addr) (d' : Nat) (zs : List EE) (w1 : World), EI w1 w1.heap.size D ys → EI w1 w1.heap.size D' zs → ys.map EE.x = zs.map EE.x → ys.length ≤ 1000 → (∀ y ∈ ys, y.x.m.props.length ≤ 4398046511104) → Calls Tryd.prog 16 #[.agg (quC s' n' (.slice D ys.length d)).toArray, .agg (quC s' n' (.slice D' zs.length d')).toArray] w1 fun e w' => e = .returned (.bool true) ∧ Below w1.heap.size w1 w') := Lib.hid (fun s' n' D d ys D' d' zs w1 h1 h2 h3 h4 h5 => by
    have h := rSameQ_any s' s' n' n' D d ys D' d' zs w1 h1 h2 (by omega) h5
    rw [decide_eq_true (p := s' = s' ∧ n' = n' ∧ ys.map EE.x = zs.map EE.x) ⟨rfl, rfl, h3⟩] at h
    exact h)
  unfold RetSt
  unfold quV
  go_enter Tryd.func10, Tryd.ntmps10
  go_upto_region 1 with fail
  refine name_world (C := fun w1 => Code.wp _ _ _ _ w1) (((w.alloc (.cells (quC s n (.slice A l.length c)).toArray 26)).alloc (.cells (oqC kd now nn m ma mc x xa xc).toArray 36)).alloc (.cells zeroQ.toArray 26)) ?_
  intro w1 hw1
  obtain ⟨t1, t2, t3, hb1⟩ := three_laid (v1 := quC s n (.slice A l.length c)) (v2 := oqC kd now nn m ma mc x xa xc) (v3 := zeroQ) hw1
  have Q_w1 := Lib.hid t1
  have O_w1 := Lib.hid t2
  have R_w1 := Lib.hid t3
  have B_w1 := Lib.hid hb1
  clear hw1 hb1 t1 t2 t3
  obtain ⟨gz, hgz⟩ : ∃ g, g = w.heap.size + 2 := ⟨_, rfl⟩
  obtain ⟨gm, hgm⟩ : ∃ g, g = w.heap.size + 1 := ⟨_, rfl⟩
  obtain ⟨gq, hgq⟩ : ∃ g, g = w.heap.size := ⟨_, rfl⟩
  have HG : Hid (w.heap.size ≤ gq ∧ gq < gm ∧ gm < gz) := Lib.hid (by omega)
  rw [← hgz] at R_w1
  try rw [← hgz]
  clear hgz
  rw [← hgm] at O_w1
  try rw [← hgm]
  clear hgm
  rw [← hgq] at Q_w1
  try rw [← hgq]
  clear hgq
  have HRW : Hid (gz < w1.heap.size) := Lib.hid R_w1.out.lt
  have HW1 : Hid (w.heap.size ≤ w1.heap.size) := Lib.hid B_w1.out.size
  have d0 := O_w1.out.cell 0 rfl
  have W_w1 : Hid (w1.heap.size ≤ w1.heap.size) := Lib.hid (Nat.le_refl _)
  by_cases k0 : kd = 0
  · have e1 : (kd == 0) = true := by simp [k0]
    clear k0
    go_upto_region 3 with fail
    clear d0 e1
    have hpu := fun w1 h1 h2 h3 => qPush_any s n A c l m ma mc now w1 h1 h2 h3 HVP.out.2.2.2.2.1 (by have := HL.out; omega) HPP.out (by have := HVP.out.2.1; omega)
    have hpr := fun w1 h1 h2 => rPush_any s n A c l m ma mc now w1 h1 h2 (by have := HL.out; omega) HPP.out (by have := HVP.out.2.1; omega) (fun y hy e => by have := (entR_parts (HVP.out.2.2.2.1 y hy)).1; omega) HMZ.out HMN.out
    have hva : pushK s n l.length m now = 0 → validR s (n + 1) (insQ (l.map EE.x) (pushE n now m)) = 0 := fun h => valid_push2 HV.out (by have := HLM.out; omega) (by rw [List.length_map]; exact h)
    generalize pushK s n l.length m now = pk at hpu hpr hva
    unfold RetK RetQ quV msgV at hpu hpr
    by_cases p0 : pk = 0
    · subst p0
      simp only [↓reduceIte] at hpu hpr
      have HQ7 := Lib.hid hpu
      have HR9 := Lib.hid hpr
      have HVAL := Lib.hid (hva rfl)
      clear hpu hpr hva
      have dnw1 := O_w1.out.cell 1 rfl
      go_wp2_with first
        | (refine wpList_load_v (by rfl) 26 (.tmp 2) rfl ⟨gq, 0, none⟩ rfl (.agg (quC s n (.slice A l.length c)).toArray) (load_qu Q_w1.out) ?_)
        | (refine wpList_load_v (by rfl) 32 (.tmp 31) rfl ⟨gm, 3, none⟩ rfl (.agg (msgC m ma mc).toArray) (load_oqm3 O_w1.out) ?_)
      have HWZ7 : Hid (w1.heap.size ≤ w1.heap.size) := Lib.hid W_w1.out
      go_wp2_with fail
      refine (HQ7.out w1 (HO.out.step B_w1.out) (HS.out.step B_w1.out) (GL.step HMP.out B_w1.out)).mono ?_
      rintro e y1 ⟨w7v, ys7, rfl, hys, hL, hb⟩
      have B_y1 : Hid (Below w.heap.size w y1) := Lib.hid (stepB B_w1.out hb)
      have Q_y1 : Hid (BK 26 y1 gq (quC s n (.slice A l.length c))) := Lib.hid (Q_w1.out.step hb)
      have O_y1 : Hid (BK 36 y1 gm (oqC kd now nn m ma mc x xa xc)) := Lib.hid (O_w1.out.step hb)
      have R_y1 : Hid (BK 26 y1 gz zeroQ) := Lib.hid (R_w1.out.step hb)
      have W_y1 : Hid (w1.heap.size ≤ y1.heap.size) := Lib.hid (Nat.le_trans W_w1.out hb.size)
      clear B_w1 Q_w1 O_w1 R_w1 W_w1
      obtain ⟨A7, c7, rfl, hc7, hen7⟩ := LN.of gE_len hL
      have HY7 := Lib.hid hys
      have HC7 := Lib.hid hc7
      have HB7 : Hid (gz < w1.heap.size) := Lib.hid (Nat.lt_of_lt_of_le HRW.out HWZ7.out)
      have HWL7 : Hid (w.heap.size ≤ w1.heap.size) := Lib.hid (Nat.le_trans HW1.out HWZ7.out)
      have HWT7 : Hid (w1.heap.size ≤ y1.heap.size) := Lib.hid W_y1.out
      have L7_y1 : Hid (EM5 y1 w1.heap.size y1.heap.size A7 ys7) := Lib.hid (EM5.of hen7)
      clear hL hys hc7 hen7
      clear hb
      go_upto_region 4 with first
        | (refine S2.wpList_store_all (by rfl) 26 (.tmp 7) (.tmp 36) rfl rfl (y1.heap.size) rfl (quC s (n + 1) (.slice A7 ys7.length c7)) rfl 26 _ (BK.new y1 _ _) quSize rfl (ones rfl) ?_; intro y2 hM hP; have hb : Below y1.heap.size y1 y2 := hP.below (S2.below_new y1 _) (Nat.le_refl _); have B_y2 : Hid (Below w.heap.size w y2) := Lib.hid (stepB B_y1.out hb); have Q_y2 : Hid (BK 26 y2 gq (quC s n (.slice A l.length c))) := Lib.hid (Q_y1.out.step hb); have O_y2 : Hid (BK 36 y2 gm (oqC kd now nn m ma mc x xa xc)) := Lib.hid (O_y1.out.step hb); have R_y2 : Hid (BK 26 y2 gz zeroQ) := Lib.hid (R_y1.out.step hb); have W_y2 : Hid (w1.heap.size ≤ y2.heap.size) := Lib.hid (Nat.le_trans W_y1.out hb.size); have L7_y2 : Hid (EM5 y2 w1.heap.size y1.heap.size A7 ys7) := Lib.hid (EM5.step L7_y1.out hb); have T7_y2 : Hid (BK 26 y2 (y1.heap.size) (quC s (n + 1) (.slice A7 ys7.length c7))) := Lib.hid hM; clear hM hP hb B_y1 Q_y1 O_y1 R_y1 W_y1 L7_y1)
      obtain ⟨gT7, hgT7⟩ : ∃ b, b = y1.heap.size := ⟨_, rfl⟩
      have HGT7 : Hid (gz < gT7) := Lib.hid (by rw [hgT7]; have h1 := HWT7.out; have h2 := HRW.out; omega)
      rw [← hgT7] at T7_y2
      try rw [← hgT7]
      clear hgT7
      have dny2 := O_y2.out.cell 1 rfl
      go_wp2_with first
        | (refine wpList_load_v (by rfl) 26 (.tmp 2) rfl ⟨gq, 0, none⟩ rfl (.agg (quC s n (.slice A l.length c)).toArray) (load_qu Q_y2.out) ?_)
        | (refine wpList_load_v (by rfl) 32 (.tmp 40) rfl ⟨gm, 3, none⟩ rfl (.agg (msgC m ma mc).toArray) (load_oqm3 O_y2.out) ?_)
      have HWZ9 : Hid (w1.heap.size ≤ y2.heap.size) := Lib.hid W_y2.out
      go_wp2_with fail
      refine (HR9.out y2 (HS.out.step B_y2.out) (GL.step HMP.out B_y2.out)).mono ?_
      rintro e y3 ⟨w9v, ys9, rfl, hys, hL, hb⟩
      have B_y3 : Hid (Below w.heap.size w y3) := Lib.hid (stepB B_y2.out hb)
      have Q_y3 : Hid (BK 26 y3 gq (quC s n (.slice A l.length c))) := Lib.hid (Q_y2.out.step hb)
      have O_y3 : Hid (BK 36 y3 gm (oqC kd now nn m ma mc x xa xc)) := Lib.hid (O_y2.out.step hb)
      have R_y3 : Hid (BK 26 y3 gz zeroQ) := Lib.hid (R_y2.out.step hb)
      have W_y3 : Hid (w1.heap.size ≤ y3.heap.size) := Lib.hid (Nat.le_trans W_y2.out hb.size)
      have L7_y3 : Hid (EM5 y3 w1.heap.size y1.heap.size A7 ys7) := Lib.hid (EM5.step L7_y2.out hb)
      have T7_y3 : Hid (BK 26 y3 gT7 (quC s (n + 1) (.slice A7 ys7.length c7))) := Lib.hid (T7_y2.out.step hb)
      clear B_y2 Q_y2 O_y2 R_y2 W_y2 L7_y2 T7_y2
      obtain ⟨A9, c9, rfl, hc9, hen9⟩ := LN.of gE_len hL
      have HY9 := Lib.hid hys
      have HC9 := Lib.hid hc9
      have HB9 : Hid (gz < y2.heap.size) := Lib.hid (Nat.lt_of_lt_of_le HRW.out HWZ9.out)
      have HWL9 : Hid (w.heap.size ≤ y2.heap.size) := Lib.hid (Nat.le_trans HW1.out HWZ9.out)
      have HWT9 : Hid (w1.heap.size ≤ y3.heap.size) := Lib.hid W_y3.out
      have L9_y3 : Hid (EM5 y3 y2.heap.size y3.heap.size A9 ys9) := Lib.hid (EM5.of hen9)
      clear hL hys hc9 hen9
      clear hb
      go_upto_region 5 with first
        | (refine S2.wpList_store_all (by rfl) 26 (.tmp 9) (.tmp 45) rfl rfl (y3.heap.size) rfl (quC s (n + 1) (.slice A9 ys9.length c9)) rfl 26 _ (BK.new y3 _ _) quSize rfl (ones rfl) ?_; intro y4 hM hP; have hb : Below y3.heap.size y3 y4 := hP.below (S2.below_new y3 _) (Nat.le_refl _); have B_y4 : Hid (Below w.heap.size w y4) := Lib.hid (stepB B_y3.out hb); have Q_y4 : Hid (BK 26 y4 gq (quC s n (.slice A l.length c))) := Lib.hid (Q_y3.out.step hb); have O_y4 : Hid (BK 36 y4 gm (oqC kd now nn m ma mc x xa xc)) := Lib.hid (O_y3.out.step hb); have R_y4 : Hid (BK 26 y4 gz zeroQ) := Lib.hid (R_y3.out.step hb); have W_y4 : Hid (w1.heap.size ≤ y4.heap.size) := Lib.hid (Nat.le_trans W_y3.out hb.size); have L7_y4 : Hid (EM5 y4 w1.heap.size y1.heap.size A7 ys7) := Lib.hid (EM5.step L7_y3.out hb); have T7_y4 : Hid (BK 26 y4 gT7 (quC s (n + 1) (.slice A7 ys7.length c7))) := Lib.hid (T7_y3.out.step hb); have L9_y4 : Hid (EM5 y4 y2.heap.size y3.heap.size A9 ys9) := Lib.hid (EM5.step L9_y3.out hb); have T9_y4 : Hid (BK 26 y4 (y3.heap.size) (quC s (n + 1) (.slice A9 ys9.length c9))) := Lib.hid hM; clear hM hP hb B_y3 Q_y3 O_y3 R_y3 W_y3 L7_y3 T7_y3 L9_y3)
      obtain ⟨gT9, hgT9⟩ : ∃ b, b = y3.heap.size := ⟨_, rfl⟩
      have HGT9 : Hid (gz < gT9) := Lib.hid (by rw [hgT9]; have h1 := HWT9.out; have h2 := HRW.out; omega)
      rw [← hgT9] at T9_y4
      try rw [← hgT9]
      clear hgT9
      go_upto_region 7 with fail
      have hm79 : ys7.map EE.x = ys9.map EE.x := by rw [HY7.out, HY9.out]
      have HM79 := Lib.hid hm79
      have HLE7 : Hid (ys7.length ≤ 1000 ∧ ys9.length ≤ l.length + 1) := Lib.hid (by have h1 := len_map HY7.out; have h2 := len_map HY9.out; have h3 := HL.out; rw [insQ_len, List.length_map] at h1 h2; omega)
      have HP7 : Hid (∀ y ∈ ys7, y.x.m.props.length ≤ 4398046511104) := Lib.hid (fun y hy => entP ((validR_parts HVAL.out).2.2.2.1 y.x (by rw [← HY7.out]; exact List.mem_map_of_mem hy)))
      clear hm79
      obtain ⟨y5, hy5⟩ : ∃ y5, y5 = World.drew y4 := ⟨_, rfl⟩
      have hbD : Below y4.heap.size y4 y5 := by rw [hy5]; exact (Below.refl _ _).drew
      have B_y5 : Hid (Below w.heap.size w y5) := Lib.hid (stepB B_y4.out hbD)
      have Q_y5 : Hid (BK 26 y5 gq (quC s n (.slice A l.length c))) := Lib.hid (Q_y4.out.step hbD)
      have O_y5 : Hid (BK 36 y5 gm (oqC kd now nn m ma mc x xa xc)) := Lib.hid (O_y4.out.step hbD)
      have R_y5 : Hid (BK 26 y5 gz zeroQ) := Lib.hid (R_y4.out.step hbD)
      have W_y5 : Hid (w1.heap.size ≤ y5.heap.size) := Lib.hid (Nat.le_trans W_y4.out hbD.size)
      have L7_y5 : Hid (EM5 y5 w1.heap.size y1.heap.size A7 ys7) := Lib.hid (EM5.step L7_y4.out hbD)
      have T7_y5 : Hid (BK 26 y5 gT7 (quC s (n + 1) (.slice A7 ys7.length c7))) := Lib.hid (T7_y4.out.step hbD)
      have L9_y5 : Hid (EM5 y5 y2.heap.size y3.heap.size A9 ys9) := Lib.hid (EM5.step L9_y4.out hbD)
      have T9_y5 : Hid (BK 26 y5 gT9 (quC s (n + 1) (.slice A9 ys9.length c9))) := Lib.hid (T9_y4.out.step hbD)
      clear B_y4 Q_y4 O_y4 R_y4 W_y4 L7_y4 T7_y4 L9_y4 T9_y4
      have hbd : (fun w' => BK 26 w' gT7 (quC s (n + 1) (.slice A7 ys7.length c7)) ∧ BK 26 w' gT9 (quC s (n + 1) (.slice A9 ys9.length c9))) (World.drew y4) := by rw [← hy5]; exact ⟨T7_y5.out, T9_y5.out⟩
      have hSD : (fun w' => BK 26 w' gT7 (quC s (n + 1) (.slice A7 ys7.length c7)) ∧ BK 26 w' gT9 (quC s (n + 1) (.slice A9 ys9.length c9))) y5 := ⟨T7_y5.out, T9_y5.out⟩
      have HWD := Lib.hid hy5
      clear hy5 hbD
      refine wp_region_held_drew (S := fun w' => BK 26 w' gT7 (quC s (n + 1) (.slice A7 ys7.length c7)) ∧ BK 26 w' gT9 (quC s (n + 1) (.slice A9 ys9.length c9))) (by kernel_rfl) hbd (fun hHeld => ?_)
      rw [← HWD.out]
      clear hHeld
      have hHeld := hSD
      clear hSD hbd HWD
      refine wpAnyH_take (i := 0) (v := (.agg (quC s (n + 1) (.slice A9 ys9.length c9)).toArray)) (get_ops _ _ _ rfl) (by kernel_rfl) (by kernel_rfl) (by kernel_rfl) (fun _ _ _ h => h) (Or.inl ⟨by rfl, fun wS hSw => by (try dsimp only at hSw); exact exec_load 26 _ rfl ⟨gT9, 0, none⟩ (by go_simp) _ (load_qu hSw.2)⟩) hHeld ?_
      try simp only [Act.put, List.setIfInBounds_toArray, List.set_cons_zero, List.set_cons_succ]
      refine wpAnyH_take (i := 1) (v := (.int .i64 0)) (get_ops _ _ _ rfl) (by kernel_rfl) (by kernel_rfl) (by kernel_rfl) (fun _ _ _ h => h) (Or.inl ⟨by rfl, fun wS hSw => by (try dsimp only at hSw); go_simp⟩) hHeld ?_
      try simp only [Act.put, List.setIfInBounds_toArray, List.set_cons_zero, List.set_cons_succ]
      refine wpAnyH_take (i := 2) (v := (.int .i64 0)) (get_ops _ _ _ rfl) (by kernel_rfl) (by kernel_rfl) (by kernel_rfl) (fun _ _ _ h => h) (Or.inl ⟨by rfl, fun wS hSw => by (try dsimp only at hSw); go_simp⟩) hHeld ?_
      try simp only [Act.put, List.setIfInBounds_toArray, List.set_cons_zero, List.set_cons_succ]
      refine wpAnyH_take (i := 3) (v := (.bool true)) (get_ops _ _ _ rfl) (by kernel_rfl) (by kernel_rfl) (by kernel_rfl) (fun _ _ _ h => h) (Or.inl ⟨by rfl, fun wS hSw => by (try dsimp only at hSw); go_simp⟩) hHeld ?_
      try simp only [Act.put, List.setIfInBounds_toArray, List.set_cons_zero, List.set_cons_succ]
      refine wpAnyH_take (i := 4) (v := (.bool true)) (get_ops _ _ _ rfl) (by kernel_rfl) (by kernel_rfl) (by kernel_rfl) (fun _ _ _ h => h) (Or.inl ⟨by rfl, fun wS hSw => by (try dsimp only at hSw); go_simp⟩) hHeld ?_
      try simp only [Act.put, List.setIfInBounds_toArray, List.set_cons_zero, List.set_cons_succ]
      refine wpAnyH_take (i := 5) (v := (.agg (quC s (n + 1) (.slice A7 ys7.length c7)).toArray)) (get_ops _ _ _ rfl) (by kernel_rfl) (by kernel_rfl) (by kernel_rfl) (fun _ _ _ h => h) (Or.inl ⟨by rfl, fun wS hSw => by (try dsimp only at hSw); exact exec_load 26 _ rfl ⟨gT7, 0, none⟩ (by go_simp) _ (load_qu hSw.1)⟩) hHeld ?_
      try simp only [Act.put, List.setIfInBounds_toArray, List.set_cons_zero, List.set_cons_succ]
      refine wpAnyH_take (i := 6) (v := (.agg (quC s (n + 1) (.slice A9 ys9.length c9)).toArray)) (get_ops _ _ _ rfl) (by kernel_rfl) (by kernel_rfl) (by kernel_rfl) (fun _ _ _ h => h) (Or.inl ⟨by rfl, fun wS hSw => by (try dsimp only at hSw); exact exec_load 26 _ rfl ⟨gT9, 0, none⟩ (by go_simp) _ (load_qu hSw.2)⟩) hHeld ?_
      try simp only [Act.put, List.setIfInBounds_toArray, List.set_cons_zero, List.set_cons_succ]
      refine wpAnyH_ready (rs := [7]) (by kernel_rfl) (by simp) ?_
      refine (AllReadyH.cons (get_ops _ _ _ rfl) (fun K hK => ?_) AllReadyH.nil)
      go_simp
      refine (HSAM.out s (n + 1) A7 c7 ys7 A9 c9 ys9 y5 L7_y5.out.en.1 L9_y5.out.en.1 HM79.out HLE7.out.1 HP7.out).mono ?_
      rintro e y6 ⟨rfl, hb⟩
      have B_y6 : Hid (Below w.heap.size w y6) := Lib.hid (stepB B_y5.out hb)
      have Q_y6 : Hid (BK 26 y6 gq (quC s n (.slice A l.length c))) := Lib.hid (Q_y5.out.step hb)
      have O_y6 : Hid (BK 36 y6 gm (oqC kd now nn m ma mc x xa xc)) := Lib.hid (O_y5.out.step hb)
      have R_y6 : Hid (BK 26 y6 gz zeroQ) := Lib.hid (R_y5.out.step hb)
      have W_y6 : Hid (w1.heap.size ≤ y6.heap.size) := Lib.hid (Nat.le_trans W_y5.out hb.size)
      have L7_y6 : Hid (EM5 y6 w1.heap.size y1.heap.size A7 ys7) := Lib.hid (EM5.step L7_y5.out hb)
      have T7_y6 : Hid (BK 26 y6 gT7 (quC s (n + 1) (.slice A7 ys7.length c7))) := Lib.hid (T7_y5.out.step hb)
      have L9_y6 : Hid (EM5 y6 y2.heap.size y3.heap.size A9 ys9) := Lib.hid (EM5.step L9_y5.out hb)
      have T9_y6 : Hid (BK 26 y6 gT9 (quC s (n + 1) (.slice A9 ys9.length c9))) := Lib.hid (T9_y5.out.step hb)
      clear B_y5 Q_y5 O_y5 R_y5 W_y5 L7_y5 T7_y5 L9_y5 T9_y5
      clear hHeld hb
      go_wp2_with fail
      refine hK.out _ _ ⟨T7_y6.out, T9_y6.out⟩ (fun hHeld => ?_)
      clear hK K
      try simp only [Act.put, List.setIfInBounds_toArray, List.set_cons_zero, List.set_cons_succ]
      refine wpAnyH_take (i := 8) (v := (.bool true)) (get_ops _ _ _ rfl) (by kernel_rfl) (by kernel_rfl) (by kernel_rfl) (fun _ _ _ h => h) (Or.inl ⟨by rfl, fun wS hSw => by (try dsimp only at hSw); go_simp⟩) hHeld ?_
      try simp only [Act.put, List.setIfInBounds_toArray, List.set_cons_zero, List.set_cons_succ]
      refine wpAnyH_ready (rs := [9]) (by kernel_rfl) (by simp) ?_
      refine (AllReadyH.cons (get_ops _ _ _ rfl) (fun K hK => ?_) AllReadyH.nil)
      refine S2.wp_store_all 26 _ _ rfl rfl gz (by go_simp) (quC s (n + 1) (.slice A9 ys9.length c9)) (by first | rfl | go_simp) 26 _ R_y6.out quSize rfl (quC_one _ rfl) ?_
      intro y7 hM hP
      have R_y7 : Hid (BK 26 y7 gz (quC s (n + 1) (.slice A9 ys9.length c9))) := Lib.hid (hM)
      have B_y7 : Hid (Below w.heap.size w y7) := Lib.hid (hP.below B_y6.out (by have := HG.out; omega))
      have Q_y7 : Hid (BK 26 y7 gq (quC s n (.slice A l.length c))) := Lib.hid (hP.other Q_y6.out (by have := HG.out; omega))
      have O_y7 : Hid (BK 36 y7 gm (oqC kd now nn m ma mc x xa xc)) := Lib.hid (hP.other O_y6.out (by have := HG.out; omega))
      have W_y7 : Hid (w1.heap.size ≤ y7.heap.size) := Lib.hid (by have h9 := hP.size; have h8 := W_y6.out; omega)
      have L7_y7 : Hid (EM5 y7 w1.heap.size y1.heap.size A7 ys7) := Lib.hid (EM5.put2 L7_y6.out hP HB7.out)
      have T7_y7 : Hid (BK 26 y7 gT7 (quC s (n + 1) (.slice A7 ys7.length c7))) := Lib.hid (hP.other T7_y6.out (by have := HGT7.out; omega))
      have L9_y7 : Hid (EM5 y7 y2.heap.size y3.heap.size A9 ys9) := Lib.hid (EM5.put2 L9_y6.out hP HB9.out)
      have T9_y7 : Hid (BK 26 y7 gT9 (quC s (n + 1) (.slice A9 ys9.length c9))) := Lib.hid (hP.other T9_y6.out (by have := HGT9.out; omega))
      clear B_y6 Q_y6 O_y6 R_y6 W_y6 L7_y6 T7_y6 L9_y6 T9_y6
      clear hM hP hHeld
      refine hK.out _ _ ⟨T7_y7.out, T9_y7.out⟩ (fun hHeld => ?_)
      clear hK K
      try simp only [Act.put, List.setIfInBounds_toArray, List.set_cons_zero, List.set_cons_succ]
      refine wpAnyH_take (i := 10) (v := (.slice none 0 0)) (get_ops _ _ _ rfl) (by kernel_rfl) (by kernel_rfl) (by kernel_rfl) (fun _ _ _ h => h) (Or.inl ⟨by rfl, fun wS hSw => by (try dsimp only at hSw); go_simp⟩) hHeld ?_
      try simp only [Act.put, List.setIfInBounds_toArray, List.set_cons_zero, List.set_cons_succ]
      refine wpAnyH_take (i := 11) (v := (.bool true)) (get_ops _ _ _ rfl) (by kernel_rfl) (by kernel_rfl) (by kernel_rfl) (fun _ _ _ h => h) (Or.inl ⟨by rfl, fun wS hSw => by (try dsimp only at hSw); go_simp⟩) hHeld ?_
      try simp only [Act.put, List.setIfInBounds_toArray, List.set_cons_zero, List.set_cons_succ]
      refine wpAnyH_done (by kernel_rfl) ?_ _
      go_wp2_with fail
      exact bodyPost_ret (v := .tuple #[.agg (quC s (n + 1) (.slice A9 ys9.length c9)).toArray, (.slice none 0 0), .bool true]) (res_ctt rfl _ _ gz 26 (quC s (n + 1) (.slice A9 ys9.length c9)) _ _ _ rfl rfl rfl R_y7.out Tryd.underlying26 rfl quSize) rfl ⟨(n + 1), A9, c9, ys9, (.slice none 0 0), [], rfl, by rw [HY9.out]; exact HVAL.out, HLE7.out.2, by rw [HY9.out]; exact ezY_ins HEZ.out HMZ.out, HC9.out, (Or.inl (L9_y7.out.en.weak HWL9.out)), (Or.inl ⟨rfl, rfl⟩), B_y7.out⟩
    · simp only [if_neg p0] at hpu hpr
      have HQ7 := Lib.hid hpu
      have HR9 := Lib.hid hpr
      clear hpu hpr hva
      have q1 : (pk == 0) = false := by simpa using p0
      have q2 : (pk != 0) = true := by simpa using p0
      clear p0
      have dnw1 := O_w1.out.cell 1 rfl
      go_wp2_with first
        | (refine wpList_load_v (by rfl) 26 (.tmp 2) rfl ⟨gq, 0, none⟩ rfl (.agg (quC s n (.slice A l.length c)).toArray) (load_qu Q_w1.out) ?_)
        | (refine wpList_load_v (by rfl) 32 (.tmp 31) rfl ⟨gm, 3, none⟩ rfl (.agg (msgC m ma mc).toArray) (load_oqm3 O_w1.out) ?_)
      have HWZ7 : Hid (w1.heap.size ≤ w1.heap.size) := Lib.hid W_w1.out
      go_wp2_with fail
      refine (HQ7.out w1 (HO.out.step B_w1.out) (HS.out.step B_w1.out) (GL.step HMP.out B_w1.out)).mono ?_
      rintro e y6 ⟨w7v, ys7, rfl, hys, hL, hb⟩
      have B_y6 : Hid (Below w.heap.size w y6) := Lib.hid (stepB B_w1.out hb)
      have Q_y6 : Hid (BK 26 y6 gq (quC s n (.slice A l.length c))) := Lib.hid (Q_w1.out.step hb)
      have O_y6 : Hid (BK 36 y6 gm (oqC kd now nn m ma mc x xa xc)) := Lib.hid (O_w1.out.step hb)
      have R_y6 : Hid (BK 26 y6 gz zeroQ) := Lib.hid (R_w1.out.step hb)
      have W_y6 : Hid (w1.heap.size ≤ y6.heap.size) := Lib.hid (Nat.le_trans W_w1.out hb.size)
      clear B_w1 Q_w1 O_w1 R_w1 W_w1
      obtain ⟨A7, c7, rfl, hc7, hen7⟩ := LN.of gE_len hL
      have HY7 := Lib.hid hys
      have HC7 := Lib.hid hc7
      have HB7 : Hid (gz < w1.heap.size) := Lib.hid (Nat.lt_of_lt_of_le HRW.out HWZ7.out)
      have HWL7 : Hid (w.heap.size ≤ w1.heap.size) := Lib.hid (Nat.le_trans HW1.out HWZ7.out)
      have HWT7 : Hid (w1.heap.size ≤ y6.heap.size) := Lib.hid W_y6.out
      have L7_y6 : Hid (EM5 y6 w1.heap.size y6.heap.size A7 ys7) := Lib.hid (EM5.of hen7)
      clear hL hys hc7 hen7
      clear hb
      go_upto_region 4 with first
        | (refine S2.wpList_store_all (by rfl) 26 (.tmp 7) (.tmp 36) rfl rfl (y6.heap.size) rfl (quC Sp.zero 0 (.slice A7 ys7.length c7)) rfl 26 _ (BK.new y6 _ _) quSize rfl (ones rfl) ?_; intro y7 hM hP; have hb : Below y6.heap.size y6 y7 := hP.below (S2.below_new y6 _) (Nat.le_refl _); have B_y7 : Hid (Below w.heap.size w y7) := Lib.hid (stepB B_y6.out hb); have Q_y7 : Hid (BK 26 y7 gq (quC s n (.slice A l.length c))) := Lib.hid (Q_y6.out.step hb); have O_y7 : Hid (BK 36 y7 gm (oqC kd now nn m ma mc x xa xc)) := Lib.hid (O_y6.out.step hb); have R_y7 : Hid (BK 26 y7 gz zeroQ) := Lib.hid (R_y6.out.step hb); have W_y7 : Hid (w1.heap.size ≤ y7.heap.size) := Lib.hid (Nat.le_trans W_y6.out hb.size); have L7_y7 : Hid (EM5 y7 w1.heap.size y6.heap.size A7 ys7) := Lib.hid (EM5.step L7_y6.out hb); have T7_y7 : Hid (BK 26 y7 (y6.heap.size) (quC Sp.zero 0 (.slice A7 ys7.length c7))) := Lib.hid hM; clear hM hP hb B_y6 Q_y6 O_y6 R_y6 W_y6 L7_y6)
      obtain ⟨gT7, hgT7⟩ : ∃ b, b = y6.heap.size := ⟨_, rfl⟩
      have HGT7 : Hid (gz < gT7) := Lib.hid (by rw [hgT7]; have h1 := HWT7.out; have h2 := HRW.out; omega)
      rw [← hgT7] at T7_y7
      try rw [← hgT7]
      clear hgT7
      have dny7 := O_y7.out.cell 1 rfl
      go_wp2_with first
        | (refine wpList_load_v (by rfl) 26 (.tmp 2) rfl ⟨gq, 0, none⟩ rfl (.agg (quC s n (.slice A l.length c)).toArray) (load_qu Q_y7.out) ?_)
        | (refine wpList_load_v (by rfl) 32 (.tmp 40) rfl ⟨gm, 3, none⟩ rfl (.agg (msgC m ma mc).toArray) (load_oqm3 O_y7.out) ?_)
      have HWZ9 : Hid (w1.heap.size ≤ y7.heap.size) := Lib.hid W_y7.out
      go_wp2_with fail
      refine (HR9.out y7 (HS.out.step B_y7.out) (GL.step HMP.out B_y7.out)).mono ?_
      rintro e y8 ⟨w9v, ys9, rfl, hys, hL, hb⟩
      have B_y8 : Hid (Below w.heap.size w y8) := Lib.hid (stepB B_y7.out hb)
      have Q_y8 : Hid (BK 26 y8 gq (quC s n (.slice A l.length c))) := Lib.hid (Q_y7.out.step hb)
      have O_y8 : Hid (BK 36 y8 gm (oqC kd now nn m ma mc x xa xc)) := Lib.hid (O_y7.out.step hb)
      have R_y8 : Hid (BK 26 y8 gz zeroQ) := Lib.hid (R_y7.out.step hb)
      have W_y8 : Hid (w1.heap.size ≤ y8.heap.size) := Lib.hid (Nat.le_trans W_y7.out hb.size)
      have L7_y8 : Hid (EM5 y8 w1.heap.size y6.heap.size A7 ys7) := Lib.hid (EM5.step L7_y7.out hb)
      have T7_y8 : Hid (BK 26 y8 gT7 (quC Sp.zero 0 (.slice A7 ys7.length c7))) := Lib.hid (T7_y7.out.step hb)
      clear B_y7 Q_y7 O_y7 R_y7 W_y7 L7_y7 T7_y7
      obtain ⟨A9, c9, rfl, hc9, hen9⟩ := LN.of gE_len hL
      have HY9 := Lib.hid hys
      have HC9 := Lib.hid hc9
      have HB9 : Hid (gz < y7.heap.size) := Lib.hid (Nat.lt_of_lt_of_le HRW.out HWZ9.out)
      have HWL9 : Hid (w.heap.size ≤ y7.heap.size) := Lib.hid (Nat.le_trans HW1.out HWZ9.out)
      have HWT9 : Hid (w1.heap.size ≤ y8.heap.size) := Lib.hid W_y8.out
      have L9_y8 : Hid (EM5 y8 y7.heap.size y8.heap.size A9 ys9) := Lib.hid (EM5.of hen9)
      clear hL hys hc9 hen9
      clear hb
      go_upto_region 5 with first
        | (refine S2.wpList_store_all (by rfl) 26 (.tmp 9) (.tmp 45) rfl rfl (y8.heap.size) rfl (quC Sp.zero 0 (.slice A9 ys9.length c9)) rfl 26 _ (BK.new y8 _ _) quSize rfl (ones rfl) ?_; intro y9 hM hP; have hb : Below y8.heap.size y8 y9 := hP.below (S2.below_new y8 _) (Nat.le_refl _); have B_y9 : Hid (Below w.heap.size w y9) := Lib.hid (stepB B_y8.out hb); have Q_y9 : Hid (BK 26 y9 gq (quC s n (.slice A l.length c))) := Lib.hid (Q_y8.out.step hb); have O_y9 : Hid (BK 36 y9 gm (oqC kd now nn m ma mc x xa xc)) := Lib.hid (O_y8.out.step hb); have R_y9 : Hid (BK 26 y9 gz zeroQ) := Lib.hid (R_y8.out.step hb); have W_y9 : Hid (w1.heap.size ≤ y9.heap.size) := Lib.hid (Nat.le_trans W_y8.out hb.size); have L7_y9 : Hid (EM5 y9 w1.heap.size y6.heap.size A7 ys7) := Lib.hid (EM5.step L7_y8.out hb); have T7_y9 : Hid (BK 26 y9 gT7 (quC Sp.zero 0 (.slice A7 ys7.length c7))) := Lib.hid (T7_y8.out.step hb); have L9_y9 : Hid (EM5 y9 y7.heap.size y8.heap.size A9 ys9) := Lib.hid (EM5.step L9_y8.out hb); have T9_y9 : Hid (BK 26 y9 (y8.heap.size) (quC Sp.zero 0 (.slice A9 ys9.length c9))) := Lib.hid hM; clear hM hP hb B_y8 Q_y8 O_y8 R_y8 W_y8 L7_y8 T7_y8 L9_y8)
      obtain ⟨gT9, hgT9⟩ : ∃ b, b = y8.heap.size := ⟨_, rfl⟩
      have HGT9 : Hid (gz < gT9) := Lib.hid (by rw [hgT9]; have h1 := HWT9.out; have h2 := HRW.out; omega)
      rw [← hgT9] at T9_y9
      try rw [← hgT9]
      clear hgT9
      go_upto_region 6 with fail
      have q3 : (pk == pk) = true := by simp
      have e7 := List.map_eq_nil_iff.1 HY7.out
      subst e7
      clear L7_y9
      obtain ⟨y10, hy10⟩ : ∃ y10, y10 = World.drew y9 := ⟨_, rfl⟩
      have hbD : Below y9.heap.size y9 y10 := by rw [hy10]; exact (Below.refl _ _).drew
      have B_y10 : Hid (Below w.heap.size w y10) := Lib.hid (stepB B_y9.out hbD)
      have Q_y10 : Hid (BK 26 y10 gq (quC s n (.slice A l.length c))) := Lib.hid (Q_y9.out.step hbD)
      have O_y10 : Hid (BK 36 y10 gm (oqC kd now nn m ma mc x xa xc)) := Lib.hid (O_y9.out.step hbD)
      have R_y10 : Hid (BK 26 y10 gz zeroQ) := Lib.hid (R_y9.out.step hbD)
      have W_y10 : Hid (w1.heap.size ≤ y10.heap.size) := Lib.hid (Nat.le_trans W_y9.out hbD.size)
      have T7_y10 : Hid (BK 26 y10 gT7 (quC Sp.zero 0 (.slice A7 ([] : List EE).length c7))) := Lib.hid (T7_y9.out.step hbD)
      have L9_y10 : Hid (EM5 y10 y7.heap.size y8.heap.size A9 ys9) := Lib.hid (EM5.step L9_y9.out hbD)
      have T9_y10 : Hid (BK 26 y10 gT9 (quC Sp.zero 0 (.slice A9 ys9.length c9))) := Lib.hid (T9_y9.out.step hbD)
      clear B_y9 Q_y9 O_y9 R_y9 W_y9 T7_y9 L9_y9 T9_y9
      have hbd : (fun w' => BK 26 w' gT7 (quC Sp.zero 0 (.slice A7 ([] : List EE).length c7)) ∧ BK 26 w' gq (quC s n (.slice A l.length c))) (World.drew y9) := by rw [← hy10]; exact ⟨T7_y10.out, Q_y10.out⟩
      have hSD : (fun w' => BK 26 w' gT7 (quC Sp.zero 0 (.slice A7 ([] : List EE).length c7)) ∧ BK 26 w' gq (quC s n (.slice A l.length c))) y10 := ⟨T7_y10.out, Q_y10.out⟩
      have HWD := Lib.hid hy10
      clear hy10 hbD
      refine wp_region_held_drew (S := fun w' => BK 26 w' gT7 (quC Sp.zero 0 (.slice A7 ([] : List EE).length c7)) ∧ BK 26 w' gq (quC s n (.slice A l.length c))) (by kernel_rfl) hbd (fun hHeld => ?_)
      rw [← HWD.out]
      clear hHeld
      have hHeld := hSD
      clear hSD hbd HWD
      refine wpAnyH_take (i := 0) (v := (.agg (quC s n (.slice A l.length c)).toArray)) (get_ops _ _ _ rfl) (by kernel_rfl) (by kernel_rfl) (by kernel_rfl) (fun _ _ _ h => h) (Or.inl ⟨by rfl, fun wS hSw => by (try dsimp only at hSw); exact exec_load 26 _ rfl ⟨gq, 0, none⟩ (by go_simp) _ (load_qu hSw.2)⟩) hHeld ?_
      try simp only [Act.put, List.setIfInBounds_toArray, List.set_cons_zero, List.set_cons_succ]
      refine wpAnyH_take (i := 1) (v := (.int .i64 pk)) (get_ops _ _ _ rfl) (by kernel_rfl) (by kernel_rfl) (by kernel_rfl) (fun _ _ _ h => h) (Or.inl ⟨by rfl, fun wS hSw => by (try dsimp only at hSw); go_simp⟩) hHeld ?_
      try simp only [Act.put, List.setIfInBounds_toArray, List.set_cons_zero, List.set_cons_succ]
      refine wpAnyH_take (i := 2) (v := (.int .i64 pk)) (get_ops _ _ _ rfl) (by kernel_rfl) (by kernel_rfl) (by kernel_rfl) (fun _ _ _ h => h) (Or.inl ⟨by rfl, fun wS hSw => by (try dsimp only at hSw); go_simp⟩) hHeld ?_
      try simp only [Act.put, List.setIfInBounds_toArray, List.set_cons_zero, List.set_cons_succ]
      refine wpAnyH_take (i := 3) (v := (.bool true)) (get_ops _ _ _ rfl) (by kernel_rfl) (by kernel_rfl) (by kernel_rfl) (fun _ _ _ h => h) (Or.inl ⟨by rfl, fun wS hSw => by (try dsimp only at hSw); go_simp⟩) hHeld ?_
      try simp only [Act.put, List.setIfInBounds_toArray, List.set_cons_zero, List.set_cons_succ]
      refine wpAnyH_take (i := 4) (v := (.bool true)) (get_ops _ _ _ rfl) (by kernel_rfl) (by kernel_rfl) (by kernel_rfl) (fun _ _ _ h => h) (Or.inl ⟨by rfl, fun wS hSw => by (try dsimp only at hSw); go_simp⟩) hHeld ?_
      try simp only [Act.put, List.setIfInBounds_toArray, List.set_cons_zero, List.set_cons_succ]
      refine wpAnyH_take (i := 5) (v := (.agg (quC Sp.zero 0 (.slice A7 ([] : List EE).length c7)).toArray)) (get_ops _ _ _ rfl) (by kernel_rfl) (by kernel_rfl) (by kernel_rfl) (fun _ _ _ h => h) (Or.inl ⟨by rfl, fun wS hSw => by (try dsimp only at hSw); exact exec_load 26 _ rfl ⟨gT7, 0, none⟩ (by go_simp) _ (load_qu hSw.1)⟩) hHeld ?_
      try simp only [Act.put, List.setIfInBounds_toArray, List.set_cons_zero, List.set_cons_succ]
      refine wpAnyH_take (i := 6) (v := (.agg #[.string ⟨#[]⟩, .int .i64 0, .int .i64 0, .int .i64 0, .string ⟨#[]⟩, .int .i64 0, .slice none 0 0])) (get_ops _ _ _ rfl) (by kernel_rfl) (by kernel_rfl) (by kernel_rfl) (fun _ _ _ h => h) (Or.inl ⟨by rfl, fun wS hSw => by (try dsimp only at hSw); first | (clear hSw; go_simp; done) | (clear hSw; go_simp; rfl) | rfl⟩) hHeld ?_
      try simp only [Act.put, List.setIfInBounds_toArray, List.set_cons_zero, List.set_cons_succ]
      refine wpAnyH_ready (rs := [7]) (by kernel_rfl) (by simp) ?_
      refine (AllReadyH.cons (get_ops _ _ _ rfl) (fun K hK => ?_) AllReadyH.nil)
      go_simp
      refine (HSAM.out Sp.zero 0 A7 c7 ([] : List EE) none 0 ([] : List EE) y10 (LI.nil _ _ _) (LI.nil _ _ _) rfl (by decide) (fun y hy => by cases hy)).mono ?_
      rintro e y11 ⟨rfl, hb⟩
      have B_y11 : Hid (Below w.heap.size w y11) := Lib.hid (stepB B_y10.out hb)
      have Q_y11 : Hid (BK 26 y11 gq (quC s n (.slice A l.length c))) := Lib.hid (Q_y10.out.step hb)
      have O_y11 : Hid (BK 36 y11 gm (oqC kd now nn m ma mc x xa xc)) := Lib.hid (O_y10.out.step hb)
      have R_y11 : Hid (BK 26 y11 gz zeroQ) := Lib.hid (R_y10.out.step hb)
      have W_y11 : Hid (w1.heap.size ≤ y11.heap.size) := Lib.hid (Nat.le_trans W_y10.out hb.size)
      have T7_y11 : Hid (BK 26 y11 gT7 (quC Sp.zero 0 (.slice A7 ([] : List EE).length c7))) := Lib.hid (T7_y10.out.step hb)
      have L9_y11 : Hid (EM5 y11 y7.heap.size y8.heap.size A9 ys9) := Lib.hid (EM5.step L9_y10.out hb)
      have T9_y11 : Hid (BK 26 y11 gT9 (quC Sp.zero 0 (.slice A9 ys9.length c9))) := Lib.hid (T9_y10.out.step hb)
      clear B_y10 Q_y10 O_y10 R_y10 W_y10 T7_y10 L9_y10 T9_y10
      clear hHeld hb
      go_wp2_with fail
      refine hK.out _ _ ⟨T7_y11.out, Q_y11.out⟩ (fun hHeld => ?_)
      clear hK K
      try simp only [Act.put, List.setIfInBounds_toArray, List.set_cons_zero, List.set_cons_succ]
      refine wpAnyH_take (i := 8) (v := (.bool true)) (get_ops _ _ _ rfl) (by kernel_rfl) (by kernel_rfl) (by kernel_rfl) (fun _ _ _ h => h) (Or.inl ⟨by rfl, fun wS hSw => by (try dsimp only at hSw); go_simp⟩) hHeld ?_
      try simp only [Act.put, List.setIfInBounds_toArray, List.set_cons_zero, List.set_cons_succ]
      refine wpAnyH_ready (rs := [9]) (by kernel_rfl) (by simp) ?_
      refine (AllReadyH.cons (get_ops _ _ _ rfl) (fun K hK => ?_) AllReadyH.nil)
      refine S2.wp_store_all 26 _ _ rfl rfl gz (by go_simp) (quC s n (.slice A l.length c)) (by first | rfl | go_simp) 26 _ R_y11.out quSize rfl (quC_one _ rfl) ?_
      intro y12 hM hP
      have R_y12 : Hid (BK 26 y12 gz (quC s n (.slice A l.length c))) := Lib.hid (hM)
      have B_y12 : Hid (Below w.heap.size w y12) := Lib.hid (hP.below B_y11.out (by have := HG.out; omega))
      have Q_y12 : Hid (BK 26 y12 gq (quC s n (.slice A l.length c))) := Lib.hid (hP.other Q_y11.out (by have := HG.out; omega))
      have O_y12 : Hid (BK 36 y12 gm (oqC kd now nn m ma mc x xa xc)) := Lib.hid (hP.other O_y11.out (by have := HG.out; omega))
      have W_y12 : Hid (w1.heap.size ≤ y12.heap.size) := Lib.hid (by have h9 := hP.size; have h8 := W_y11.out; omega)
      have T7_y12 : Hid (BK 26 y12 gT7 (quC Sp.zero 0 (.slice A7 ([] : List EE).length c7))) := Lib.hid (hP.other T7_y11.out (by have := HGT7.out; omega))
      have L9_y12 : Hid (EM5 y12 y7.heap.size y8.heap.size A9 ys9) := Lib.hid (EM5.put2 L9_y11.out hP HB9.out)
      have T9_y12 : Hid (BK 26 y12 gT9 (quC Sp.zero 0 (.slice A9 ys9.length c9))) := Lib.hid (hP.other T9_y11.out (by have := HGT9.out; omega))
      clear B_y11 Q_y11 O_y11 R_y11 W_y11 T7_y11 L9_y11 T9_y11
      clear hM hP hHeld
      refine hK.out _ _ ⟨T7_y12.out, Q_y12.out⟩ (fun hHeld => ?_)
      clear hK K
      try simp only [Act.put, List.setIfInBounds_toArray, List.set_cons_zero, List.set_cons_succ]
      refine wpAnyH_take (i := 10) (v := (.slice none 0 0)) (get_ops _ _ _ rfl) (by kernel_rfl) (by kernel_rfl) (by kernel_rfl) (fun _ _ _ h => h) (Or.inl ⟨by rfl, fun wS hSw => by (try dsimp only at hSw); go_simp⟩) hHeld ?_
      try simp only [Act.put, List.setIfInBounds_toArray, List.set_cons_zero, List.set_cons_succ]
      refine wpAnyH_take (i := 11) (v := (.bool true)) (get_ops _ _ _ rfl) (by kernel_rfl) (by kernel_rfl) (by kernel_rfl) (fun _ _ _ h => h) (Or.inl ⟨by rfl, fun wS hSw => by (try dsimp only at hSw); go_simp⟩) hHeld ?_
      try simp only [Act.put, List.setIfInBounds_toArray, List.set_cons_zero, List.set_cons_succ]
      refine wpAnyH_done (by kernel_rfl) ?_ _
      go_wp2_with fail
      exact bodyPost_ret (v := .tuple #[.agg (quC s n (.slice A l.length c)).toArray, (.slice none 0 0), .bool true]) (res_ctt rfl _ _ gz 26 (quC s n (.slice A l.length c)) _ _ _ rfl rfl rfl R_y12.out Tryd.underlying26 rfl quSize) rfl ⟨n, A, c, l, (.slice none 0 0), [], rfl, HV.out, by omega, HEZ.out, HCL.out, (Or.inr ⟨rfl, rfl, rfl⟩), (Or.inl ⟨rfl, rfl⟩), B_y12.out⟩
  have e1 : (kd == 0) = false := by simpa using k0
  clear k0
  by_cases k1 : kd = 1
  · have e2 : (kd == 1) = true := by simp [k1]
    clear k1
    go_upto_region 9 with fail
    clear d0 e1 e2
    by_cases hl0 : l.length = 0
    · have hp0 : ∀ w1, Calls Tryd.prog 15 #[quV s n (.slice A l.length c)] w1 (RetP0 w1) := fun w1 => by rw [hl0]; exact qPop0_any s n A c w1
      have hr0 : ∀ w1, Calls Tryd.prog 24 #[quV s n (.slice A l.length c)] w1 (RetP0 w1) := fun w1 => by rw [hl0]; exact rPop0_any s n A c w1
      unfold quV RetP0 enW enV at hp0 hr0
      have HP0 := Lib.hid hp0
      have HR0 := Lib.hid hr0
      clear hp0 hr0 hl0
      go_wp2_with first
        | (refine wpList_load_v (by rfl) 26 (.tmp 2) rfl ⟨gq, 0, none⟩ rfl (.agg (quC s n (.slice A l.length c)).toArray) (load_qu Q_w1.out) ?_)
      refine (HP0.out w1).mono ?_
      rintro e y11 ⟨rfl, hb⟩
      have B_y11 : Hid (Below w.heap.size w y11) := Lib.hid (stepB B_w1.out hb)
      have Q_y11 : Hid (BK 26 y11 gq (quC s n (.slice A l.length c))) := Lib.hid (Q_w1.out.step hb)
      have O_y11 : Hid (BK 36 y11 gm (oqC kd now nn m ma mc x xa xc)) := Lib.hid (O_w1.out.step hb)
      have R_y11 : Hid (BK 26 y11 gz zeroQ) := Lib.hid (R_w1.out.step hb)
      have W_y11 : Hid (w1.heap.size ≤ y11.heap.size) := Lib.hid (Nat.le_trans W_w1.out hb.size)
      clear B_w1 Q_w1 O_w1 R_w1 W_w1
      clear hb
      have HXE1 : Hid (gz < y11.heap.size) := Lib.hid (Nat.lt_of_lt_of_le HRW.out W_y11.out)
      go_upto_region 10 with first
        | (refine S2.wpList_store_all (by rfl) 34 (.tmp 11) (.tmp 72) rfl rfl y11.heap.size rfl (enX En.zero none 0) rfl 34 (enX En.zero none 0) (BK.alloc (BK.new y11 _ _) _) enSize rfl (enX_one _ _ _) ?_; intro y12 hM hP; have XM := Lib.hid hM; have XP := Lib.hid hP; clear hM hP)
        | (refine S2.wpList_store_all (by rfl) 26 (.tmp 12) (.tmp 73) rfl rfl (y11.heap.size + 1) rfl zeroQ rfl 26 zeroQ (XP.out.other (bk_new1 y11 _ _ _) (by omega)) quSize rfl (quC_one _ rfl) ?_; intro y13 hM hP; have hb : Below y11.heap.size y11 y13 := hP.below (XP.out.below (stepB (S2.below_new y11 _) (S2.below_new _ _)) (Nat.le_refl _)) (by omega); have E1_y13 : Hid (BK 34 y13 y11.heap.size (enX En.zero none 0)) := Lib.hid (hP.other XM.out (by omega)); have T1_y13 : Hid (BK 26 y13 (y11.heap.size + 1) zeroQ) := Lib.hid hM; have B_y13 : Hid (Below w.heap.size w y13) := Lib.hid (stepB B_y11.out hb); have Q_y13 : Hid (BK 26 y13 gq (quC s n (.slice A l.length c))) := Lib.hid (Q_y11.out.step hb); have O_y13 : Hid (BK 36 y13 gm (oqC kd now nn m ma mc x xa xc)) := Lib.hid (O_y11.out.step hb); have R_y13 : Hid (BK 26 y13 gz zeroQ) := Lib.hid (R_y11.out.step hb); have W_y13 : Hid (w1.heap.size ≤ y13.heap.size) := Lib.hid (Nat.le_trans W_y11.out hb.size); clear hM hP hb XM XP B_y11 Q_y11 O_y11 R_y11 W_y11)
      obtain ⟨gT1, hg2⟩ : ∃ b, b = y11.heap.size + 1 := ⟨_, rfl⟩
      obtain ⟨gE1, hg1⟩ : ∃ b, b = y11.heap.size := ⟨_, rfl⟩
      have HGE1 : Hid (gz < gE1 ∧ gz < gT1) := Lib.hid (by rw [hg1, hg2]; have := HXE1.out; omega)
      rw [← hg2] at T1_y13
      try rw [← hg2]
      clear hg2
      rw [← hg1] at E1_y13
      try rw [← hg1]
      clear hg1
      go_wp2_with first
        | (refine wpList_load_v (by rfl) 26 (.tmp 2) rfl ⟨gq, 0, none⟩ rfl (.agg (quC s n (.slice A l.length c)).toArray) (load_qu Q_y13.out) ?_)
      refine (HR0.out y13).mono ?_
      rintro e y14 ⟨rfl, hb⟩
      have B_y14 : Hid (Below w.heap.size w y14) := Lib.hid (stepB B_y13.out hb)
      have Q_y14 : Hid (BK 26 y14 gq (quC s n (.slice A l.length c))) := Lib.hid (Q_y13.out.step hb)
      have O_y14 : Hid (BK 36 y14 gm (oqC kd now nn m ma mc x xa xc)) := Lib.hid (O_y13.out.step hb)
      have R_y14 : Hid (BK 26 y14 gz zeroQ) := Lib.hid (R_y13.out.step hb)
      have W_y14 : Hid (w1.heap.size ≤ y14.heap.size) := Lib.hid (Nat.le_trans W_y13.out hb.size)
      have E1_y14 : Hid (BK 34 y14 gE1 (enX En.zero none 0)) := Lib.hid (E1_y13.out.step hb)
      have T1_y14 : Hid (BK 26 y14 gT1 zeroQ) := Lib.hid (T1_y13.out.step hb)
      clear B_y13 Q_y13 O_y13 R_y13 W_y13 E1_y13 T1_y13
      clear hb
      have HXE2 : Hid (gz < y14.heap.size) := Lib.hid (Nat.lt_of_lt_of_le HRW.out W_y14.out)
      go_upto_region 11 with first
        | (refine S2.wpList_store_all (by rfl) 34 (.tmp 14) (.tmp 78) rfl rfl y14.heap.size rfl (enX En.zero none 0) rfl 34 (enX En.zero none 0) (BK.alloc (BK.new y14 _ _) _) enSize rfl (enX_one _ _ _) ?_; intro y15 hM hP; have XM := Lib.hid hM; have XP := Lib.hid hP; clear hM hP)
        | (refine S2.wpList_store_all (by rfl) 26 (.tmp 15) (.tmp 79) rfl rfl (y14.heap.size + 1) rfl zeroQ rfl 26 zeroQ (XP.out.other (bk_new1 y14 _ _ _) (by omega)) quSize rfl (quC_one _ rfl) ?_; intro y16 hM hP; have hb : Below y14.heap.size y14 y16 := hP.below (XP.out.below (stepB (S2.below_new y14 _) (S2.below_new _ _)) (Nat.le_refl _)) (by omega); have E2_y16 : Hid (BK 34 y16 y14.heap.size (enX En.zero none 0)) := Lib.hid (hP.other XM.out (by omega)); have T2_y16 : Hid (BK 26 y16 (y14.heap.size + 1) zeroQ) := Lib.hid hM; have B_y16 : Hid (Below w.heap.size w y16) := Lib.hid (stepB B_y14.out hb); have Q_y16 : Hid (BK 26 y16 gq (quC s n (.slice A l.length c))) := Lib.hid (Q_y14.out.step hb); have O_y16 : Hid (BK 36 y16 gm (oqC kd now nn m ma mc x xa xc)) := Lib.hid (O_y14.out.step hb); have R_y16 : Hid (BK 26 y16 gz zeroQ) := Lib.hid (R_y14.out.step hb); have W_y16 : Hid (w1.heap.size ≤ y16.heap.size) := Lib.hid (Nat.le_trans W_y14.out hb.size); have E1_y16 : Hid (BK 34 y16 gE1 (enX En.zero none 0)) := Lib.hid (E1_y14.out.step hb); have T1_y16 : Hid (BK 26 y16 gT1 zeroQ) := Lib.hid (T1_y14.out.step hb); clear hM hP hb XM XP B_y14 Q_y14 O_y14 R_y14 W_y14 E1_y14 T1_y14)
      obtain ⟨gT2, hg2⟩ : ∃ b, b = y14.heap.size + 1 := ⟨_, rfl⟩
      obtain ⟨gE2, hg1⟩ : ∃ b, b = y14.heap.size := ⟨_, rfl⟩
      have HGE2 : Hid (gz < gE2 ∧ gz < gT2) := Lib.hid (by rw [hg1, hg2]; have := HXE2.out; omega)
      rw [← hg2] at T2_y16
      try rw [← hg2]
      clear hg2
      rw [← hg1] at E2_y16
      try rw [← hg1]
      clear hg1
      go_upto_region 12 with fail
      have hse := fun w1 => rSameE_any En.zero En.zero none none 0 0 w1 (GL.nil _ _ _) (GL.nil _ _ _) (Nat.zero_le _)
      rw [decide_eq_true (rfl : En.zero = En.zero)] at hse
      unfold enW enV at hse
      have HSE := Lib.hid hse
      clear hse
      obtain ⟨y17, hy17⟩ : ∃ y17, y17 = World.drew y16 := ⟨_, rfl⟩
      have hbD : Below y16.heap.size y16 y17 := by rw [hy17]; exact (Below.refl _ _).drew
      have B_y17 : Hid (Below w.heap.size w y17) := Lib.hid (stepB B_y16.out hbD)
      have Q_y17 : Hid (BK 26 y17 gq (quC s n (.slice A l.length c))) := Lib.hid (Q_y16.out.step hbD)
      have O_y17 : Hid (BK 36 y17 gm (oqC kd now nn m ma mc x xa xc)) := Lib.hid (O_y16.out.step hbD)
      have R_y17 : Hid (BK 26 y17 gz zeroQ) := Lib.hid (R_y16.out.step hbD)
      have W_y17 : Hid (w1.heap.size ≤ y17.heap.size) := Lib.hid (Nat.le_trans W_y16.out hbD.size)
      have E1_y17 : Hid (BK 34 y17 gE1 (enX En.zero none 0)) := Lib.hid (E1_y16.out.step hbD)
      have T1_y17 : Hid (BK 26 y17 gT1 zeroQ) := Lib.hid (T1_y16.out.step hbD)
      have E2_y17 : Hid (BK 34 y17 gE2 (enX En.zero none 0)) := Lib.hid (E2_y16.out.step hbD)
      have T2_y17 : Hid (BK 26 y17 gT2 zeroQ) := Lib.hid (T2_y16.out.step hbD)
      clear B_y16 Q_y16 O_y16 R_y16 W_y16 E1_y16 T1_y16 E2_y16 T2_y16
      have hbd : (fun w' => BK 26 w' gT1 zeroQ ∧ BK 26 w' gT2 zeroQ ∧ BK 34 w' gE1 (enX En.zero none 0) ∧ BK 34 w' gE2 (enX En.zero none 0) ∧ BK 26 w' gq (quC s n (.slice A l.length c))) (World.drew y16) := by rw [← hy17]; exact ⟨T1_y17.out, T2_y17.out, E1_y17.out, E2_y17.out, Q_y17.out⟩
      have hSD : (fun w' => BK 26 w' gT1 zeroQ ∧ BK 26 w' gT2 zeroQ ∧ BK 34 w' gE1 (enX En.zero none 0) ∧ BK 34 w' gE2 (enX En.zero none 0) ∧ BK 26 w' gq (quC s n (.slice A l.length c))) y17 := ⟨T1_y17.out, T2_y17.out, E1_y17.out, E2_y17.out, Q_y17.out⟩
      have HWD := Lib.hid hy17
      clear hy17 hbD
      refine wp_region_held_drew (S := fun w' => BK 26 w' gT1 zeroQ ∧ BK 26 w' gT2 zeroQ ∧ BK 34 w' gE1 (enX En.zero none 0) ∧ BK 34 w' gE2 (enX En.zero none 0) ∧ BK 26 w' gq (quC s n (.slice A l.length c))) (by kernel_rfl) hbd (fun hHeld => ?_)
      rw [← HWD.out]
      clear hHeld
      have hHeld := hSD
      clear hSD hbd HWD
      refine wpAnyH_take (i := 0) (v := (.agg (quC s n (.slice A l.length c)).toArray)) (get_ops _ _ _ rfl) (by kernel_rfl) (by kernel_rfl) (by kernel_rfl) (fun _ _ _ h => h) (Or.inl ⟨by rfl, fun wS hSw => by (try dsimp only at hSw); exact exec_load 26 _ rfl ⟨gq, 0, none⟩ (by go_simp) _ (load_qu hSw.2.2.2.2)⟩) hHeld ?_
      try simp only [Act.put, List.setIfInBounds_toArray, List.set_cons_zero, List.set_cons_succ]
      refine wpAnyH_take (i := 1) (v := (.bool false)) (get_ops _ _ _ rfl) (by kernel_rfl) (by kernel_rfl) (by kernel_rfl) (fun _ _ _ h => h) (Or.inl ⟨by rfl, fun wS hSw => by (try dsimp only at hSw); go_simp⟩) hHeld ?_
      try simp only [Act.put, List.setIfInBounds_toArray, List.set_cons_zero, List.set_cons_succ]
      refine wpAnyH_take (i := 2) (v := (.bool true)) (get_ops _ _ _ rfl) (by kernel_rfl) (by kernel_rfl) (by kernel_rfl) (fun _ _ _ h => h) (Or.inl ⟨by rfl, fun wS hSw => by (try dsimp only at hSw); go_simp⟩) hHeld ?_
      try simp only [Act.put, List.setIfInBounds_toArray, List.set_cons_zero, List.set_cons_succ]
      refine wpAnyH_take (i := 3) (v := (.bool true)) (get_ops _ _ _ rfl) (by kernel_rfl) (by kernel_rfl) (by kernel_rfl) (fun _ _ _ h => h) (Or.inl ⟨by rfl, fun wS hSw => by (try dsimp only at hSw); go_simp⟩) hHeld ?_
      try simp only [Act.put, List.setIfInBounds_toArray, List.set_cons_zero, List.set_cons_succ]
      refine wpAnyH_take (i := 4) (v := (.agg (quC Sp.zero 0 (.slice none ([] : List EE).length 0)).toArray)) (get_ops _ _ _ rfl) (by kernel_rfl) (by kernel_rfl) (by kernel_rfl) (fun _ _ _ h => h) (Or.inl ⟨by rfl, fun wS hSw => by (try dsimp only at hSw); exact exec_load 26 _ rfl ⟨gT1, 0, none⟩ (by go_simp) _ (load_qu hSw.1)⟩) hHeld ?_
      try simp only [Act.put, List.setIfInBounds_toArray, List.set_cons_zero, List.set_cons_succ]
      refine wpAnyH_take (i := 5) (v := (.agg (quC Sp.zero 0 (.slice none ([] : List EE).length 0)).toArray)) (get_ops _ _ _ rfl) (by kernel_rfl) (by kernel_rfl) (by kernel_rfl) (fun _ _ _ h => h) (Or.inl ⟨by rfl, fun wS hSw => by (try dsimp only at hSw); exact exec_load 26 _ rfl ⟨gT2, 0, none⟩ (by go_simp) _ (load_qu hSw.2.1)⟩) hHeld ?_
      try simp only [Act.put, List.setIfInBounds_toArray, List.set_cons_zero, List.set_cons_succ]
      refine wpAnyH_ready (rs := [6]) (by kernel_rfl) (by simp) ?_
      refine (AllReadyH.cons (get_ops _ _ _ rfl) (fun K hK => ?_) AllReadyH.nil)
      go_simp
      refine (HSAM.out Sp.zero 0 none 0 ([] : List EE) none 0 ([] : List EE) y17 (LI.nil _ _ _) (LI.nil _ _ _) rfl (by decide) (fun y hy => by cases hy)).mono ?_
      rintro e y18 ⟨rfl, hb⟩
      have B_y18 : Hid (Below w.heap.size w y18) := Lib.hid (stepB B_y17.out hb)
      have Q_y18 : Hid (BK 26 y18 gq (quC s n (.slice A l.length c))) := Lib.hid (Q_y17.out.step hb)
      have O_y18 : Hid (BK 36 y18 gm (oqC kd now nn m ma mc x xa xc)) := Lib.hid (O_y17.out.step hb)
      have R_y18 : Hid (BK 26 y18 gz zeroQ) := Lib.hid (R_y17.out.step hb)
      have W_y18 : Hid (w1.heap.size ≤ y18.heap.size) := Lib.hid (Nat.le_trans W_y17.out hb.size)
      have E1_y18 : Hid (BK 34 y18 gE1 (enX En.zero none 0)) := Lib.hid (E1_y17.out.step hb)
      have T1_y18 : Hid (BK 26 y18 gT1 zeroQ) := Lib.hid (T1_y17.out.step hb)
      have E2_y18 : Hid (BK 34 y18 gE2 (enX En.zero none 0)) := Lib.hid (E2_y17.out.step hb)
      have T2_y18 : Hid (BK 26 y18 gT2 zeroQ) := Lib.hid (T2_y17.out.step hb)
      clear B_y17 Q_y17 O_y17 R_y17 W_y17 E1_y17 T1_y17 E2_y17 T2_y17
      clear hHeld hb
      go_wp2_with fail
      refine hK.out _ _ ⟨T1_y18.out, T2_y18.out, E1_y18.out, E2_y18.out, Q_y18.out⟩ (fun hHeld => ?_)
      clear hK K
      try simp only [Act.put, List.setIfInBounds_toArray, List.set_cons_zero, List.set_cons_succ]
      refine wpAnyH_take (i := 7) (v := (.bool true)) (get_ops _ _ _ rfl) (by kernel_rfl) (by kernel_rfl) (by kernel_rfl) (fun _ _ _ h => h) (Or.inl ⟨by rfl, fun wS hSw => by (try dsimp only at hSw); go_simp⟩) hHeld ?_
      try simp only [Act.put, List.setIfInBounds_toArray, List.set_cons_zero, List.set_cons_succ]
      refine wpAnyH_take (i := 8) (v := (.bool true)) (get_ops _ _ _ rfl) (by kernel_rfl) (by kernel_rfl) (by kernel_rfl) (fun _ _ _ h => h) (Or.inl ⟨by rfl, fun wS hSw => by (try dsimp only at hSw); go_simp⟩) hHeld ?_
      try simp only [Act.put, List.setIfInBounds_toArray, List.set_cons_zero, List.set_cons_succ]
      refine wpAnyH_take (i := 9) (v := (.agg (enX En.zero none 0).toArray)) (get_ops _ _ _ rfl) (by kernel_rfl) (by kernel_rfl) (by kernel_rfl) (fun _ _ _ h => h) (Or.inl ⟨by rfl, fun wS hSw => by (try dsimp only at hSw); exact exec_load 34 _ rfl ⟨gE1, 0, none⟩ (by go_simp) _ (load_en0 hSw.2.2.1)⟩) hHeld ?_
      try simp only [Act.put, List.setIfInBounds_toArray, List.set_cons_zero, List.set_cons_succ]
      refine wpAnyH_take (i := 10) (v := (.agg (enX En.zero none 0).toArray)) (get_ops _ _ _ rfl) (by kernel_rfl) (by kernel_rfl) (by kernel_rfl) (fun _ _ _ h => h) (Or.inl ⟨by rfl, fun wS hSw => by (try dsimp only at hSw); exact exec_load 34 _ rfl ⟨gE2, 0, none⟩ (by go_simp) _ (load_en0 hSw.2.2.2.1)⟩) hHeld ?_
      try simp only [Act.put, List.setIfInBounds_toArray, List.set_cons_zero, List.set_cons_succ]
      refine wpAnyH_ready (rs := [11]) (by kernel_rfl) (by simp) ?_
      refine (AllReadyH.cons (get_ops _ _ _ rfl) (fun K hK => ?_) AllReadyH.nil)
      go_simp
      refine (HSE.out y18).mono ?_
      rintro e y19 ⟨rfl, hb⟩
      have B_y19 : Hid (Below w.heap.size w y19) := Lib.hid (stepB B_y18.out hb)
      have Q_y19 : Hid (BK 26 y19 gq (quC s n (.slice A l.length c))) := Lib.hid (Q_y18.out.step hb)
      have O_y19 : Hid (BK 36 y19 gm (oqC kd now nn m ma mc x xa xc)) := Lib.hid (O_y18.out.step hb)
      have R_y19 : Hid (BK 26 y19 gz zeroQ) := Lib.hid (R_y18.out.step hb)
      have W_y19 : Hid (w1.heap.size ≤ y19.heap.size) := Lib.hid (Nat.le_trans W_y18.out hb.size)
      have E1_y19 : Hid (BK 34 y19 gE1 (enX En.zero none 0)) := Lib.hid (E1_y18.out.step hb)
      have T1_y19 : Hid (BK 26 y19 gT1 zeroQ) := Lib.hid (T1_y18.out.step hb)
      have E2_y19 : Hid (BK 34 y19 gE2 (enX En.zero none 0)) := Lib.hid (E2_y18.out.step hb)
      have T2_y19 : Hid (BK 26 y19 gT2 zeroQ) := Lib.hid (T2_y18.out.step hb)
      clear B_y18 Q_y18 O_y18 R_y18 W_y18 E1_y18 T1_y18 E2_y18 T2_y18
      clear hHeld hb
      go_wp2_with fail
      refine hK.out _ _ ⟨T1_y19.out, T2_y19.out, E1_y19.out, E2_y19.out, Q_y19.out⟩ (fun hHeld => ?_)
      clear hK K
      try simp only [Act.put, List.setIfInBounds_toArray, List.set_cons_zero, List.set_cons_succ]
      refine wpAnyH_take (i := 12) (v := (.bool true)) (get_ops _ _ _ rfl) (by kernel_rfl) (by kernel_rfl) (by kernel_rfl) (fun _ _ _ h => h) (Or.inl ⟨by rfl, fun wS hSw => by (try dsimp only at hSw); go_simp⟩) hHeld ?_
      try simp only [Act.put, List.setIfInBounds_toArray, List.set_cons_zero, List.set_cons_succ]
      refine wpAnyH_ready (rs := [13]) (by kernel_rfl) (by simp) ?_
      refine (AllReadyH.cons (get_ops _ _ _ rfl) (fun K hK => ?_) AllReadyH.nil)
      refine S2.wp_store_all 26 _ _ rfl rfl gz (by go_simp) (quC s n (.slice A l.length c)) (by first | rfl | go_simp) 26 _ R_y19.out quSize rfl (quC_one _ rfl) ?_
      intro y20 hM hP
      have R_y20 : Hid (BK 26 y20 gz (quC s n (.slice A l.length c))) := Lib.hid (hM)
      have B_y20 : Hid (Below w.heap.size w y20) := Lib.hid (hP.below B_y19.out (by have := HG.out; omega))
      have Q_y20 : Hid (BK 26 y20 gq (quC s n (.slice A l.length c))) := Lib.hid (hP.other Q_y19.out (by have := HG.out; omega))
      have O_y20 : Hid (BK 36 y20 gm (oqC kd now nn m ma mc x xa xc)) := Lib.hid (hP.other O_y19.out (by have := HG.out; omega))
      have W_y20 : Hid (w1.heap.size ≤ y20.heap.size) := Lib.hid (by have h9 := hP.size; have h8 := W_y19.out; omega)
      have E1_y20 : Hid (BK 34 y20 gE1 (enX En.zero none 0)) := Lib.hid (hP.other E1_y19.out (by have := HGE1.out; omega))
      have T1_y20 : Hid (BK 26 y20 gT1 zeroQ) := Lib.hid (hP.other T1_y19.out (by have := HGE1.out; omega))
      have E2_y20 : Hid (BK 34 y20 gE2 (enX En.zero none 0)) := Lib.hid (hP.other E2_y19.out (by have := HGE2.out; omega))
      have T2_y20 : Hid (BK 26 y20 gT2 zeroQ) := Lib.hid (hP.other T2_y19.out (by have := HGE2.out; omega))
      clear B_y19 Q_y19 O_y19 R_y19 W_y19 E1_y19 T1_y19 E2_y19 T2_y19
      clear hM hP hHeld
      refine hK.out _ _ ⟨T1_y20.out, T2_y20.out, E1_y20.out, E2_y20.out, Q_y20.out⟩ (fun hHeld => ?_)
      clear hK K
      try simp only [Act.put, List.setIfInBounds_toArray, List.set_cons_zero, List.set_cons_succ]
      refine wpAnyH_take (i := 14) (v := (.slice none 0 0)) (get_ops _ _ _ rfl) (by kernel_rfl) (by kernel_rfl) (by kernel_rfl) (fun _ _ _ h => h) (Or.inl ⟨by rfl, fun wS hSw => by (try dsimp only at hSw); go_simp⟩) hHeld ?_
      try simp only [Act.put, List.setIfInBounds_toArray, List.set_cons_zero, List.set_cons_succ]
      refine wpAnyH_take (i := 15) (v := (.bool true)) (get_ops _ _ _ rfl) (by kernel_rfl) (by kernel_rfl) (by kernel_rfl) (fun _ _ _ h => h) (Or.inl ⟨by rfl, fun wS hSw => by (try dsimp only at hSw); go_simp⟩) hHeld ?_
      try simp only [Act.put, List.setIfInBounds_toArray, List.set_cons_zero, List.set_cons_succ]
      refine wpAnyH_done (by kernel_rfl) ?_ _
      go_wp2_with fail
      exact bodyPost_ret (v := .tuple #[.agg (quC s n (.slice A l.length c)).toArray, (.slice none 0 0), .bool true]) (res_ctt rfl _ _ gz 26 (quC s n (.slice A l.length c)) _ _ _ rfl rfl rfl R_y20.out Tryd.underlying26 rfl quSize) rfl ⟨n, A, c, l, (.slice none 0 0), [], rfl, HV.out, by omega, HEZ.out, HCL.out, (Or.inr ⟨rfl, rfl, rfl⟩), (Or.inl ⟨rfl, rfl⟩), B_y20.out⟩
    · obtain ⟨y0, hy0⟩ : ∃ y, l[0]? = some y := ⟨_, List.getElem?_eq_getElem (by omega)⟩
      have hp0 := fun w1 h1 => qPop_any s n A c l y0 w1 h1 hy0 HCL.out (by have := HL.out; omega) HPP.out
      have hr0 := fun w1 h1 => rPop_any s n A c l y0 w1 h1 hy0 (by have := HL.out; omega) HPP.out
      have hLc : l.map EE.x = y0.x :: (l.map EE.x).drop 1 := by cases l with | nil => cases hy0 | cons z r => rw [List.getElem?_cons_zero] at hy0; cases hy0; rfl
      have hval2 := HV.out
      have hez2 := HEZ.out
      rw [hLc] at hval2 hez2
      have HVT : Hid (validR s n ((l.map EE.x).drop 1) = 0 ∧ ∀ z ∈ (l.map EE.x).drop 1, EzY z) := Lib.hid ⟨valid_tail hval2, fun z hz => hez2 z (List.mem_cons_of_mem _ hz)⟩
      have HEY : Hid (EzY y0.x) := Lib.hid (hez2 _ List.mem_cons_self)
      have HPY : Hid (y0.x.m.props.length ≤ 4398046511104) := Lib.hid (HPP.out y0 (List.mem_of_getElem? hy0))
      unfold RetP quV enW enV at hp0
      unfold RetPW quV enW enV at hr0
      have HP0 := Lib.hid hp0
      have HR0 := Lib.hid hr0
      clear hp0 hr0 hl0 hLc hval2 hez2 hy0
      go_wp2_with first
        | (refine wpList_load_v (by rfl) 26 (.tmp 2) rfl ⟨gq, 0, none⟩ rfl (.agg (quC s n (.slice A l.length c)).toArray) (load_qu Q_w1.out) ?_)
      have HWZ7 : Hid (w1.heap.size ≤ w1.heap.size) := Lib.hid W_w1.out
      go_wp2_with fail
      refine (HP0.out w1 (HS.out.step B_w1.out)).mono ?_
      rintro e y18 ⟨a7, ac7, w7v, ys7, rfl, hpl, hnl, hys, hL, hb⟩
      have B_y18 : Hid (Below w.heap.size w y18) := Lib.hid (stepB B_w1.out hb)
      have Q_y18 : Hid (BK 26 y18 gq (quC s n (.slice A l.length c))) := Lib.hid (Q_w1.out.step hb)
      have O_y18 : Hid (BK 36 y18 gm (oqC kd now nn m ma mc x xa xc)) := Lib.hid (O_w1.out.step hb)
      have R_y18 : Hid (BK 26 y18 gz zeroQ) := Lib.hid (R_w1.out.step hb)
      have W_y18 : Hid (w1.heap.size ≤ y18.heap.size) := Lib.hid (Nat.le_trans W_w1.out hb.size)
      clear B_w1 Q_w1 O_w1 R_w1 W_w1
      obtain ⟨A7, c7, rfl, hc7, hen7⟩ := LN.of gE_len hL
      have HY7 := Lib.hid hys
      have HB7 : Hid (gz < w1.heap.size) := Lib.hid (Nat.lt_of_lt_of_le HRW.out HWZ7.out)
      have L7_y18 : Hid (EM5 y18 w1.heap.size y18.heap.size A7 ys7) := Lib.hid (EM5.of hen7)
      have P7_y18 : Hid (PN y18 w1.heap.size a7 y0.x.m.props) := Lib.hid ⟨hpl, hnl⟩
      clear hL hys hc7 hen7 hpl hnl
      clear hb
      have HXE1 : Hid (gz < y18.heap.size) := Lib.hid (Nat.lt_of_lt_of_le HRW.out W_y18.out)
      go_upto_region 10 with first
        | (refine S2.wpList_store_all (by rfl) 34 (.tmp 11) (.tmp 72) rfl rfl y18.heap.size rfl (enX y0.x a7 ac7) rfl 34 (enX En.zero none 0) (BK.alloc (BK.new y18 _ _) _) enSize rfl (enX_one _ _ _) ?_; intro y19 hM hP; have XM := Lib.hid hM; have XP := Lib.hid hP; clear hM hP)
        | (refine S2.wpList_store_all (by rfl) 26 (.tmp 12) (.tmp 73) rfl rfl (y18.heap.size + 1) rfl (quC s n (.slice A7 ys7.length c7)) rfl 26 zeroQ (XP.out.other (bk_new1 y18 _ _ _) (by omega)) quSize rfl (quC_one _ rfl) ?_; intro y20 hM hP; have hb : Below y18.heap.size y18 y20 := hP.below (XP.out.below (stepB (S2.below_new y18 _) (S2.below_new _ _)) (Nat.le_refl _)) (by omega); have E1_y20 : Hid (BK 34 y20 y18.heap.size (enX y0.x a7 ac7)) := Lib.hid (hP.other XM.out (by omega)); have T1_y20 : Hid (BK 26 y20 (y18.heap.size + 1) (quC s n (.slice A7 ys7.length c7))) := Lib.hid hM; have B_y20 : Hid (Below w.heap.size w y20) := Lib.hid (stepB B_y18.out hb); have Q_y20 : Hid (BK 26 y20 gq (quC s n (.slice A l.length c))) := Lib.hid (Q_y18.out.step hb); have O_y20 : Hid (BK 36 y20 gm (oqC kd now nn m ma mc x xa xc)) := Lib.hid (O_y18.out.step hb); have R_y20 : Hid (BK 26 y20 gz zeroQ) := Lib.hid (R_y18.out.step hb); have W_y20 : Hid (w1.heap.size ≤ y20.heap.size) := Lib.hid (Nat.le_trans W_y18.out hb.size); have L7_y20 : Hid (EM5 y20 w1.heap.size y18.heap.size A7 ys7) := Lib.hid (EM5.step L7_y18.out hb); have P7_y20 : Hid (PN y20 w1.heap.size a7 y0.x.m.props) := Lib.hid (PN.step P7_y18.out hb); clear hM hP hb XM XP B_y18 Q_y18 O_y18 R_y18 W_y18 L7_y18 P7_y18)
      obtain ⟨gT1, hg2⟩ : ∃ b, b = y18.heap.size + 1 := ⟨_, rfl⟩
      obtain ⟨gE1, hg1⟩ : ∃ b, b = y18.heap.size := ⟨_, rfl⟩
      have HGE1 : Hid (gz < gE1 ∧ gz < gT1) := Lib.hid (by rw [hg1, hg2]; have := HXE1.out; omega)
      rw [← hg2] at T1_y20
      try rw [← hg2]
      clear hg2
      rw [← hg1] at E1_y20
      try rw [← hg1]
      clear hg1
      go_wp2_with first
        | (refine wpList_load_v (by rfl) 26 (.tmp 2) rfl ⟨gq, 0, none⟩ rfl (.agg (quC s n (.slice A l.length c)).toArray) (load_qu Q_y20.out) ?_)
      have HWZ9 : Hid (w1.heap.size ≤ y20.heap.size) := Lib.hid W_y20.out
      have HBW : Hid (w.heap.size ≤ y20.heap.size) := Lib.hid B_y20.out.size
      go_wp2_with fail
      refine (HR0.out y20 (HS.out.step B_y20.out)).mono ?_
      rintro e y21 ⟨a9, ac9, A9, c9, ys9, rfl, hpn, hys, hc9, hen9, hb⟩
      have B_y21 : Hid (Below w.heap.size w y21) := Lib.hid (stepB B_y20.out hb)
      have Q_y21 : Hid (BK 26 y21 gq (quC s n (.slice A l.length c))) := Lib.hid (Q_y20.out.step hb)
      have O_y21 : Hid (BK 36 y21 gm (oqC kd now nn m ma mc x xa xc)) := Lib.hid (O_y20.out.step hb)
      have R_y21 : Hid (BK 26 y21 gz zeroQ) := Lib.hid (R_y20.out.step hb)
      have W_y21 : Hid (w1.heap.size ≤ y21.heap.size) := Lib.hid (Nat.le_trans W_y20.out hb.size)
      have L7_y21 : Hid (EM5 y21 w1.heap.size y18.heap.size A7 ys7) := Lib.hid (EM5.step L7_y20.out hb)
      have P7_y21 : Hid (PN y21 w1.heap.size a7 y0.x.m.props) := Lib.hid (PN.step P7_y20.out hb)
      have E1_y21 : Hid (BK 34 y21 gE1 (enX y0.x a7 ac7)) := Lib.hid (E1_y20.out.step hb)
      have T1_y21 : Hid (BK 26 y21 gT1 (quC s n (.slice A7 ys7.length c7))) := Lib.hid (T1_y20.out.step hb)
      clear B_y20 Q_y20 O_y20 R_y20 W_y20 L7_y20 P7_y20 E1_y20 T1_y20
      have HY9 := Lib.hid hys
      have HC9 := Lib.hid hc9
      have HB9 : Hid (gz < y20.heap.size) := Lib.hid (Nat.lt_of_lt_of_le HRW.out HWZ9.out)
      have HWL9 : Hid (w.heap.size ≤ y20.heap.size) := Lib.hid (Nat.le_trans HW1.out HWZ9.out)
      have L9_y21 : Hid (EM5 y21 y20.heap.size y21.heap.size A9 ys9) := Lib.hid (EM5.of hen9)
      have P9_y21 : Hid (PN y21 y20.heap.size a9 y0.x.m.props) := Lib.hid hpn
      clear hys hc9 hen9 hpn
      clear hb
      have HXE2 : Hid (gz < y21.heap.size) := Lib.hid (Nat.lt_of_lt_of_le HRW.out W_y21.out)
      go_upto_region 11 with first
        | (refine S2.wpList_store_all (by rfl) 34 (.tmp 14) (.tmp 78) rfl rfl y21.heap.size rfl (enX y0.x a9 ac9) rfl 34 (enX En.zero none 0) (BK.alloc (BK.new y21 _ _) _) enSize rfl (enX_one _ _ _) ?_; intro y22 hM hP; have XM := Lib.hid hM; have XP := Lib.hid hP; clear hM hP)
        | (refine S2.wpList_store_all (by rfl) 26 (.tmp 15) (.tmp 79) rfl rfl (y21.heap.size + 1) rfl (quC s n (.slice A9 ys9.length c9)) rfl 26 zeroQ (XP.out.other (bk_new1 y21 _ _ _) (by omega)) quSize rfl (quC_one _ rfl) ?_; intro y23 hM hP; have hb : Below y21.heap.size y21 y23 := hP.below (XP.out.below (stepB (S2.below_new y21 _) (S2.below_new _ _)) (Nat.le_refl _)) (by omega); have E2_y23 : Hid (BK 34 y23 y21.heap.size (enX y0.x a9 ac9)) := Lib.hid (hP.other XM.out (by omega)); have T2_y23 : Hid (BK 26 y23 (y21.heap.size + 1) (quC s n (.slice A9 ys9.length c9))) := Lib.hid hM; have B_y23 : Hid (Below w.heap.size w y23) := Lib.hid (stepB B_y21.out hb); have Q_y23 : Hid (BK 26 y23 gq (quC s n (.slice A l.length c))) := Lib.hid (Q_y21.out.step hb); have O_y23 : Hid (BK 36 y23 gm (oqC kd now nn m ma mc x xa xc)) := Lib.hid (O_y21.out.step hb); have R_y23 : Hid (BK 26 y23 gz zeroQ) := Lib.hid (R_y21.out.step hb); have W_y23 : Hid (w1.heap.size ≤ y23.heap.size) := Lib.hid (Nat.le_trans W_y21.out hb.size); have L7_y23 : Hid (EM5 y23 w1.heap.size y18.heap.size A7 ys7) := Lib.hid (EM5.step L7_y21.out hb); have P7_y23 : Hid (PN y23 w1.heap.size a7 y0.x.m.props) := Lib.hid (PN.step P7_y21.out hb); have E1_y23 : Hid (BK 34 y23 gE1 (enX y0.x a7 ac7)) := Lib.hid (E1_y21.out.step hb); have T1_y23 : Hid (BK 26 y23 gT1 (quC s n (.slice A7 ys7.length c7))) := Lib.hid (T1_y21.out.step hb); have L9_y23 : Hid (EM5 y23 y20.heap.size y21.heap.size A9 ys9) := Lib.hid (EM5.step L9_y21.out hb); have P9_y23 : Hid (PN y23 y20.heap.size a9 y0.x.m.props) := Lib.hid (PN.step P9_y21.out hb); clear hM hP hb XM XP B_y21 Q_y21 O_y21 R_y21 W_y21 L7_y21 P7_y21 E1_y21 T1_y21 L9_y21 P9_y21)
      obtain ⟨gT2, hg2⟩ : ∃ b, b = y21.heap.size + 1 := ⟨_, rfl⟩
      obtain ⟨gE2, hg1⟩ : ∃ b, b = y21.heap.size := ⟨_, rfl⟩
      have HGE2 : Hid (gz < gE2 ∧ gz < gT2) := Lib.hid (by rw [hg1, hg2]; have := HXE2.out; omega)
      rw [← hg2] at T2_y23
      try rw [← hg2]
      clear hg2
      rw [← hg1] at E2_y23
      try rw [← hg1]
      clear hg1
      go_upto_region 13 with fail
      have hm79 : ys7.map EE.x = ys9.map EE.x := by rw [HY7.out, HY9.out]
      have HM79 := Lib.hid hm79
      have HLE7 : Hid (ys7.length ≤ 1000 ∧ ys9.length ≤ l.length + 1) := Lib.hid (by have h1 := len_map HY7.out; have h2 := len_map HY9.out; have h3 := HL.out; rw [List.length_drop, List.length_map] at h1 h2; omega)
      have HP7 : Hid (∀ y ∈ ys7, y.x.m.props.length ≤ 4398046511104) := Lib.hid (fun y hy => entP ((validR_parts HVT.out.1).2.2.2.1 y.x (by rw [← HY7.out]; exact List.mem_map_of_mem hy)))
      have hse := fun w1 h1 h2 => rSameE_any y0.x y0.x a7 a9 ac7 ac9 w1 h1 h2 HPY.out
      rw [decide_eq_true (rfl : y0.x = y0.x)] at hse
      unfold enW enV at hse
      have HSE := Lib.hid hse
      clear hm79 hse
      obtain ⟨y24, hy24⟩ : ∃ y24, y24 = World.drew y23 := ⟨_, rfl⟩
      have hbD : Below y23.heap.size y23 y24 := by rw [hy24]; exact (Below.refl _ _).drew
      have B_y24 : Hid (Below w.heap.size w y24) := Lib.hid (stepB B_y23.out hbD)
      have Q_y24 : Hid (BK 26 y24 gq (quC s n (.slice A l.length c))) := Lib.hid (Q_y23.out.step hbD)
      have O_y24 : Hid (BK 36 y24 gm (oqC kd now nn m ma mc x xa xc)) := Lib.hid (O_y23.out.step hbD)
      have R_y24 : Hid (BK 26 y24 gz zeroQ) := Lib.hid (R_y23.out.step hbD)
      have W_y24 : Hid (w1.heap.size ≤ y24.heap.size) := Lib.hid (Nat.le_trans W_y23.out hbD.size)
      have L7_y24 : Hid (EM5 y24 w1.heap.size y18.heap.size A7 ys7) := Lib.hid (EM5.step L7_y23.out hbD)
      have P7_y24 : Hid (PN y24 w1.heap.size a7 y0.x.m.props) := Lib.hid (PN.step P7_y23.out hbD)
      have E1_y24 : Hid (BK 34 y24 gE1 (enX y0.x a7 ac7)) := Lib.hid (E1_y23.out.step hbD)
      have T1_y24 : Hid (BK 26 y24 gT1 (quC s n (.slice A7 ys7.length c7))) := Lib.hid (T1_y23.out.step hbD)
      have L9_y24 : Hid (EM5 y24 y20.heap.size y21.heap.size A9 ys9) := Lib.hid (EM5.step L9_y23.out hbD)
      have P9_y24 : Hid (PN y24 y20.heap.size a9 y0.x.m.props) := Lib.hid (PN.step P9_y23.out hbD)
      have E2_y24 : Hid (BK 34 y24 gE2 (enX y0.x a9 ac9)) := Lib.hid (E2_y23.out.step hbD)
      have T2_y24 : Hid (BK 26 y24 gT2 (quC s n (.slice A9 ys9.length c9))) := Lib.hid (T2_y23.out.step hbD)
      clear B_y23 Q_y23 O_y23 R_y23 W_y23 L7_y23 P7_y23 E1_y23 T1_y23 L9_y23 P9_y23 E2_y23 T2_y23
      have hbd : (fun w' => BK 26 w' gT1 (quC s n (.slice A7 ys7.length c7)) ∧ BK 26 w' gT2 (quC s n (.slice A9 ys9.length c9)) ∧ BK 34 w' gE1 (enX y0.x a7 ac7) ∧ BK 34 w' gE2 (enX y0.x a9 ac9)) (World.drew y23) := by rw [← hy24]; exact ⟨T1_y24.out, T2_y24.out, E1_y24.out, E2_y24.out⟩
      have hSD : (fun w' => BK 26 w' gT1 (quC s n (.slice A7 ys7.length c7)) ∧ BK 26 w' gT2 (quC s n (.slice A9 ys9.length c9)) ∧ BK 34 w' gE1 (enX y0.x a7 ac7) ∧ BK 34 w' gE2 (enX y0.x a9 ac9)) y24 := ⟨T1_y24.out, T2_y24.out, E1_y24.out, E2_y24.out⟩
      have HWD := Lib.hid hy24
      clear hy24 hbD
      refine wp_region_held_drew (S := fun w' => BK 26 w' gT1 (quC s n (.slice A7 ys7.length c7)) ∧ BK 26 w' gT2 (quC s n (.slice A9 ys9.length c9)) ∧ BK 34 w' gE1 (enX y0.x a7 ac7) ∧ BK 34 w' gE2 (enX y0.x a9 ac9)) (by kernel_rfl) hbd (fun hHeld => ?_)
      rw [← HWD.out]
      clear hHeld
      have hHeld := hSD
      clear hSD hbd HWD
      refine wpAnyH_take (i := 0) (v := (.agg (quC s n (.slice A9 ys9.length c9)).toArray)) (get_ops _ _ _ rfl) (by kernel_rfl) (by kernel_rfl) (by kernel_rfl) (fun _ _ _ h => h) (Or.inl ⟨by rfl, fun wS hSw => by (try dsimp only at hSw); exact exec_load 26 _ rfl ⟨gT2, 0, none⟩ (by go_simp) _ (load_qu hSw.2.1)⟩) hHeld ?_
      try simp only [Act.put, List.setIfInBounds_toArray, List.set_cons_zero, List.set_cons_succ]
      refine wpAnyH_take (i := 1) (v := (.agg (enX y0.x a9 ac9).toArray)) (get_ops _ _ _ rfl) (by kernel_rfl) (by kernel_rfl) (by kernel_rfl) (fun _ _ _ h => h) (Or.inl ⟨by rfl, fun wS hSw => by (try dsimp only at hSw); exact exec_load 34 _ rfl ⟨gE2, 0, none⟩ (by go_simp) _ (load_en0 hSw.2.2.2)⟩) hHeld ?_
      try simp only [Act.put, List.setIfInBounds_toArray, List.set_cons_zero, List.set_cons_succ]
      refine wpAnyH_take (i := 3) (v := (.bool true)) (get_ops _ _ _ rfl) (by kernel_rfl) (by kernel_rfl) (by kernel_rfl) (fun _ _ _ h => h) (Or.inl ⟨by rfl, fun wS hSw => by (try dsimp only at hSw); go_simp⟩) hHeld ?_
      try simp only [Act.put, List.setIfInBounds_toArray, List.set_cons_zero, List.set_cons_succ]
      refine wpAnyH_take (i := 4) (v := (.bool true)) (get_ops _ _ _ rfl) (by kernel_rfl) (by kernel_rfl) (by kernel_rfl) (fun _ _ _ h => h) (Or.inl ⟨by rfl, fun wS hSw => by (try dsimp only at hSw); go_simp⟩) hHeld ?_
      try simp only [Act.put, List.setIfInBounds_toArray, List.set_cons_zero, List.set_cons_succ]
      refine wpAnyH_take (i := 5) (v := (.agg (quC s n (.slice A7 ys7.length c7)).toArray)) (get_ops _ _ _ rfl) (by kernel_rfl) (by kernel_rfl) (by kernel_rfl) (fun _ _ _ h => h) (Or.inl ⟨by rfl, fun wS hSw => by (try dsimp only at hSw); exact exec_load 26 _ rfl ⟨gT1, 0, none⟩ (by go_simp) _ (load_qu hSw.1)⟩) hHeld ?_
      try simp only [Act.put, List.setIfInBounds_toArray, List.set_cons_zero, List.set_cons_succ]
      refine wpAnyH_take (i := 6) (v := (.agg (quC s n (.slice A9 ys9.length c9)).toArray)) (get_ops _ _ _ rfl) (by kernel_rfl) (by kernel_rfl) (by kernel_rfl) (fun _ _ _ h => h) (Or.inl ⟨by rfl, fun wS hSw => by (try dsimp only at hSw); exact exec_load 26 _ rfl ⟨gT2, 0, none⟩ (by go_simp) _ (load_qu hSw.2.1)⟩) hHeld ?_
      try simp only [Act.put, List.setIfInBounds_toArray, List.set_cons_zero, List.set_cons_succ]
      refine wpAnyH_ready (rs := [2, 7]) (by kernel_rfl) (by simp) ?_
      refine (AllReadyH.cons (get_ops _ _ _ rfl) (fun K hK => ?_) (AllReadyH.cons (get_ops _ _ _ rfl) (fun K hK => ?_) AllReadyH.nil))
      · have HVB0 : Hid (w.heap.size ≤ y24.heap.size ∧ gz < y24.heap.size) := Lib.hid ⟨B_y24.out.size, R_y24.out.lt⟩
        go_simp
        obtain ⟨vb, hvb⟩ : ∃ n, n = y24.heap.size := ⟨_, rfl⟩
        have HVB : Hid (w.heap.size ≤ vb ∧ gz < vb) := Lib.hid (by rw [hvb]; exact HVB0.out)
        refine name_world (C := fun w9 => K _ w9) (y24.alloc (.cells (gE (⟨y0.x, a9, ac9⟩ : EE)).toArray 34)) ?_
        intro y25 hy25
        have hb : Below y24.heap.size y24 y25 := by rw [hy25]; exact S2.below_new _ _
        have hN : BK 34 y25 vb (gE (⟨y0.x, a9, ac9⟩ : EE)) := by rw [hy25, hvb]; exact BK.new _ _ _
        have B_y25 : Hid (Below w.heap.size w y25) := Lib.hid (stepB B_y24.out hb)
        have Q_y25 : Hid (BK 26 y25 gq (quC s n (.slice A l.length c))) := Lib.hid (Q_y24.out.step hb)
        have O_y25 : Hid (BK 36 y25 gm (oqC kd now nn m ma mc x xa xc)) := Lib.hid (O_y24.out.step hb)
        have R_y25 : Hid (BK 26 y25 gz zeroQ) := Lib.hid (R_y24.out.step hb)
        have W_y25 : Hid (w1.heap.size ≤ y25.heap.size) := Lib.hid (Nat.le_trans W_y24.out hb.size)
        have L7_y25 : Hid (EM5 y25 w1.heap.size y18.heap.size A7 ys7) := Lib.hid (EM5.step L7_y24.out hb)
        have P7_y25 : Hid (PN y25 w1.heap.size a7 y0.x.m.props) := Lib.hid (PN.step P7_y24.out hb)
        have E1_y25 : Hid (BK 34 y25 gE1 (enX y0.x a7 ac7)) := Lib.hid (E1_y24.out.step hb)
        have T1_y25 : Hid (BK 26 y25 gT1 (quC s n (.slice A7 ys7.length c7))) := Lib.hid (T1_y24.out.step hb)
        have L9_y25 : Hid (EM5 y25 y20.heap.size y21.heap.size A9 ys9) := Lib.hid (EM5.step L9_y24.out hb)
        have P9_y25 : Hid (PN y25 y20.heap.size a9 y0.x.m.props) := Lib.hid (PN.step P9_y24.out hb)
        have E2_y25 : Hid (BK 34 y25 gE2 (enX y0.x a9 ac9)) := Lib.hid (E2_y24.out.step hb)
        have T2_y25 : Hid (BK 26 y25 gT2 (quC s n (.slice A9 ys9.length c9))) := Lib.hid (T2_y24.out.step hb)
        clear B_y24 Q_y24 O_y24 R_y24 W_y24 L7_y24 P7_y24 E1_y24 T1_y24 L9_y24 P9_y24 E2_y24 T2_y24
        have X_y25 := Lib.hid hN
        try rw [← hvb]
        clear hHeld hb hN hy25 hvb
        refine hK.out _ _ ⟨T1_y25.out, T2_y25.out, E1_y25.out, E2_y25.out⟩ (fun hHeld => ?_)
        clear hK K
        try simp only [Act.put, List.setIfInBounds_toArray, List.set_cons_zero, List.set_cons_succ]
        refine wpAnyH_ready (rs := [7]) (by kernel_rfl) (by simp) ?_
        refine (AllReadyH.cons (get_ops _ _ _ rfl) (fun K hK => ?_) AllReadyH.nil)
        go_simp
        refine (HSAM.out s n A7 c7 ys7 A9 c9 ys9 y25 L7_y25.out.en.1 L9_y25.out.en.1 HM79.out HLE7.out.1 HP7.out).mono ?_
        rintro e y26 ⟨rfl, hb⟩
        have B_y26 : Hid (Below w.heap.size w y26) := Lib.hid (stepB B_y25.out hb)
        have Q_y26 : Hid (BK 26 y26 gq (quC s n (.slice A l.length c))) := Lib.hid (Q_y25.out.step hb)
        have O_y26 : Hid (BK 36 y26 gm (oqC kd now nn m ma mc x xa xc)) := Lib.hid (O_y25.out.step hb)
        have R_y26 : Hid (BK 26 y26 gz zeroQ) := Lib.hid (R_y25.out.step hb)
        have W_y26 : Hid (w1.heap.size ≤ y26.heap.size) := Lib.hid (Nat.le_trans W_y25.out hb.size)
        have L7_y26 : Hid (EM5 y26 w1.heap.size y18.heap.size A7 ys7) := Lib.hid (EM5.step L7_y25.out hb)
        have P7_y26 : Hid (PN y26 w1.heap.size a7 y0.x.m.props) := Lib.hid (PN.step P7_y25.out hb)
        have E1_y26 : Hid (BK 34 y26 gE1 (enX y0.x a7 ac7)) := Lib.hid (E1_y25.out.step hb)
        have T1_y26 : Hid (BK 26 y26 gT1 (quC s n (.slice A7 ys7.length c7))) := Lib.hid (T1_y25.out.step hb)
        have L9_y26 : Hid (EM5 y26 y20.heap.size y21.heap.size A9 ys9) := Lib.hid (EM5.step L9_y25.out hb)
        have P9_y26 : Hid (PN y26 y20.heap.size a9 y0.x.m.props) := Lib.hid (PN.step P9_y25.out hb)
        have E2_y26 : Hid (BK 34 y26 gE2 (enX y0.x a9 ac9)) := Lib.hid (E2_y25.out.step hb)
        have T2_y26 : Hid (BK 26 y26 gT2 (quC s n (.slice A9 ys9.length c9))) := Lib.hid (T2_y25.out.step hb)
        have X_y26 : Hid (BK 34 y26 vb (gE (⟨y0.x, a9, ac9⟩ : EE))) := Lib.hid (X_y25.out.step hb)
        clear B_y25 Q_y25 O_y25 R_y25 W_y25 L7_y25 P7_y25 E1_y25 T1_y25 L9_y25 P9_y25 E2_y25 T2_y25 X_y25
        clear hHeld hb
        go_wp2_with fail
        refine hK.out _ _ ⟨T1_y26.out, T2_y26.out, E1_y26.out, E2_y26.out⟩ (fun hHeld => ?_)
        clear hK K
        try simp only [Act.put, List.setIfInBounds_toArray, List.set_cons_zero, List.set_cons_succ]
        refine wpAnyH_take (i := 8) (v := (.bool true)) (get_ops _ _ _ rfl) (by kernel_rfl) (by kernel_rfl) (by kernel_rfl) (fun _ _ _ h => h) (Or.inl ⟨by rfl, fun wS hSw => by (try dsimp only at hSw); go_simp⟩) hHeld ?_
        try simp only [Act.put, List.setIfInBounds_toArray, List.set_cons_zero, List.set_cons_succ]
        refine wpAnyH_take (i := 9) (v := (.bool true)) (get_ops _ _ _ rfl) (by kernel_rfl) (by kernel_rfl) (by kernel_rfl) (fun _ _ _ h => h) (Or.inl ⟨by rfl, fun wS hSw => by (try dsimp only at hSw); go_simp⟩) hHeld ?_
        try simp only [Act.put, List.setIfInBounds_toArray, List.set_cons_zero, List.set_cons_succ]
        refine wpAnyH_take (i := 10) (v := (.agg (enX y0.x a7 ac7).toArray)) (get_ops _ _ _ rfl) (by kernel_rfl) (by kernel_rfl) (by kernel_rfl) (fun _ _ _ h => h) (Or.inl ⟨by rfl, fun wS hSw => by (try dsimp only at hSw); exact exec_load 34 _ rfl ⟨gE1, 0, none⟩ (by go_simp) _ (load_en0 hSw.2.2.1)⟩) hHeld ?_
        try simp only [Act.put, List.setIfInBounds_toArray, List.set_cons_zero, List.set_cons_succ]
        refine wpAnyH_take (i := 11) (v := (.agg (enX y0.x a9 ac9).toArray)) (get_ops _ _ _ rfl) (by kernel_rfl) (by kernel_rfl) (by kernel_rfl) (fun _ _ _ h => h) (Or.inl ⟨by rfl, fun wS hSw => by (try dsimp only at hSw); exact exec_load 34 _ rfl ⟨gE2, 0, none⟩ (by go_simp) _ (load_en0 hSw.2.2.2)⟩) hHeld ?_
        try simp only [Act.put, List.setIfInBounds_toArray, List.set_cons_zero, List.set_cons_succ]
        refine wpAnyH_ready (rs := [12]) (by kernel_rfl) (by simp) ?_
        refine (AllReadyH.cons (get_ops _ _ _ rfl) (fun K hK => ?_) AllReadyH.nil)
        go_simp
        refine (HSE.out y26 P7_y26.out.1 P9_y26.out.1).mono ?_
        rintro e y27 ⟨rfl, hb⟩
        have B_y27 : Hid (Below w.heap.size w y27) := Lib.hid (stepB B_y26.out hb)
        have Q_y27 : Hid (BK 26 y27 gq (quC s n (.slice A l.length c))) := Lib.hid (Q_y26.out.step hb)
        have O_y27 : Hid (BK 36 y27 gm (oqC kd now nn m ma mc x xa xc)) := Lib.hid (O_y26.out.step hb)
        have R_y27 : Hid (BK 26 y27 gz zeroQ) := Lib.hid (R_y26.out.step hb)
        have W_y27 : Hid (w1.heap.size ≤ y27.heap.size) := Lib.hid (Nat.le_trans W_y26.out hb.size)
        have L7_y27 : Hid (EM5 y27 w1.heap.size y18.heap.size A7 ys7) := Lib.hid (EM5.step L7_y26.out hb)
        have P7_y27 : Hid (PN y27 w1.heap.size a7 y0.x.m.props) := Lib.hid (PN.step P7_y26.out hb)
        have E1_y27 : Hid (BK 34 y27 gE1 (enX y0.x a7 ac7)) := Lib.hid (E1_y26.out.step hb)
        have T1_y27 : Hid (BK 26 y27 gT1 (quC s n (.slice A7 ys7.length c7))) := Lib.hid (T1_y26.out.step hb)
        have L9_y27 : Hid (EM5 y27 y20.heap.size y21.heap.size A9 ys9) := Lib.hid (EM5.step L9_y26.out hb)
        have P9_y27 : Hid (PN y27 y20.heap.size a9 y0.x.m.props) := Lib.hid (PN.step P9_y26.out hb)
        have E2_y27 : Hid (BK 34 y27 gE2 (enX y0.x a9 ac9)) := Lib.hid (E2_y26.out.step hb)
        have T2_y27 : Hid (BK 26 y27 gT2 (quC s n (.slice A9 ys9.length c9))) := Lib.hid (T2_y26.out.step hb)
        have X_y27 : Hid (BK 34 y27 vb (gE (⟨y0.x, a9, ac9⟩ : EE))) := Lib.hid (X_y26.out.step hb)
        clear B_y26 Q_y26 O_y26 R_y26 W_y26 L7_y26 P7_y26 E1_y26 T1_y26 L9_y26 P9_y26 E2_y26 T2_y26 X_y26
        clear hHeld hb
        go_wp2_with fail
        refine hK.out _ _ ⟨T1_y27.out, T2_y27.out, E1_y27.out, E2_y27.out⟩ (fun hHeld => ?_)
        clear hK K
        try simp only [Act.put, List.setIfInBounds_toArray, List.set_cons_zero, List.set_cons_succ]
        refine wpAnyH_take (i := 13) (v := (.bool true)) (get_ops _ _ _ rfl) (by kernel_rfl) (by kernel_rfl) (by kernel_rfl) (fun _ _ _ h => h) (Or.inl ⟨by rfl, fun wS hSw => by (try dsimp only at hSw); go_simp⟩) hHeld ?_
        try simp only [Act.put, List.setIfInBounds_toArray, List.set_cons_zero, List.set_cons_succ]
        refine wpAnyH_ready (rs := [14]) (by kernel_rfl) (by simp) ?_
        refine (AllReadyH.cons (get_ops _ _ _ rfl) (fun K hK => ?_) AllReadyH.nil)
        refine S2.wp_store_all 26 _ _ rfl rfl gz (by go_simp) (quC s n (.slice A9 ys9.length c9)) (by first | rfl | go_simp) 26 _ R_y27.out quSize rfl (quC_one _ rfl) ?_
        intro y28 hM hP
        have R_y28 : Hid (BK 26 y28 gz (quC s n (.slice A9 ys9.length c9))) := Lib.hid (hM)
        have B_y28 : Hid (Below w.heap.size w y28) := Lib.hid (hP.below B_y27.out (by have := HG.out; omega))
        have Q_y28 : Hid (BK 26 y28 gq (quC s n (.slice A l.length c))) := Lib.hid (hP.other Q_y27.out (by have := HG.out; omega))
        have O_y28 : Hid (BK 36 y28 gm (oqC kd now nn m ma mc x xa xc)) := Lib.hid (hP.other O_y27.out (by have := HG.out; omega))
        have W_y28 : Hid (w1.heap.size ≤ y28.heap.size) := Lib.hid (by have h9 := hP.size; have h8 := W_y27.out; omega)
        have L7_y28 : Hid (EM5 y28 w1.heap.size y18.heap.size A7 ys7) := Lib.hid (EM5.put2 L7_y27.out hP HB7.out)
        have P7_y28 : Hid (PN y28 w1.heap.size a7 y0.x.m.props) := Lib.hid (PN.put P7_y27.out hP HB7.out)
        have E1_y28 : Hid (BK 34 y28 gE1 (enX y0.x a7 ac7)) := Lib.hid (hP.other E1_y27.out (by have := HGE1.out; omega))
        have T1_y28 : Hid (BK 26 y28 gT1 (quC s n (.slice A7 ys7.length c7))) := Lib.hid (hP.other T1_y27.out (by have := HGE1.out; omega))
        have L9_y28 : Hid (EM5 y28 y20.heap.size y21.heap.size A9 ys9) := Lib.hid (EM5.put2 L9_y27.out hP HB9.out)
        have P9_y28 : Hid (PN y28 y20.heap.size a9 y0.x.m.props) := Lib.hid (PN.put P9_y27.out hP HB9.out)
        have E2_y28 : Hid (BK 34 y28 gE2 (enX y0.x a9 ac9)) := Lib.hid (hP.other E2_y27.out (by have := HGE2.out; omega))
        have T2_y28 : Hid (BK 26 y28 gT2 (quC s n (.slice A9 ys9.length c9))) := Lib.hid (hP.other T2_y27.out (by have := HGE2.out; omega))
        have X_y28 : Hid (BK 34 y28 vb (gE (⟨y0.x, a9, ac9⟩ : EE))) := Lib.hid (hP.other X_y27.out (by have := HVB.out.2; omega))
        clear B_y27 Q_y27 O_y27 R_y27 W_y27 L7_y27 P7_y27 E1_y27 T1_y27 L9_y27 P9_y27 E2_y27 T2_y27 X_y27
        clear hM hP hHeld
        refine hK.out _ _ ⟨T1_y28.out, T2_y28.out, E1_y28.out, E2_y28.out⟩ (fun hHeld => ?_)
        clear hK K
        try simp only [Act.put, List.setIfInBounds_toArray, List.set_cons_zero, List.set_cons_succ]
        refine wpAnyH_take (i := 15) (v := (.slice (some ⟨vb, 0, none⟩) 1 1)) (get_ops _ _ _ rfl) (by kernel_rfl) (by kernel_rfl) (by kernel_rfl) (fun _ _ _ h => h) (Or.inl ⟨by rfl, fun wS hSw => by (try dsimp only at hSw); go_simp⟩) hHeld ?_
        try simp only [Act.put, List.setIfInBounds_toArray, List.set_cons_zero, List.set_cons_succ]
        refine wpAnyH_take (i := 16) (v := (.bool true)) (get_ops _ _ _ rfl) (by kernel_rfl) (by kernel_rfl) (by kernel_rfl) (fun _ _ _ h => h) (Or.inl ⟨by rfl, fun wS hSw => by (try dsimp only at hSw); go_simp⟩) hHeld ?_
        try simp only [Act.put, List.setIfInBounds_toArray, List.set_cons_zero, List.set_cons_succ]
        refine wpAnyH_done (by kernel_rfl) ?_ _
        go_wp2_with fail
        exact bodyPost_ret (v := .tuple #[.agg (quC s n (.slice A9 ys9.length c9)).toArray, (.slice (some ⟨vb, 0, none⟩) 1 1), .bool true]) (res_ctt rfl _ _ gz 26 (quC s n (.slice A9 ys9.length c9)) _ _ _ rfl rfl rfl R_y28.out Tryd.underlying26 rfl quSize) rfl ⟨n, A9, c9, ys9, (.slice (some ⟨vb, 0, none⟩) 1 1), [(⟨y0.x, a9, ac9⟩ : EE)], rfl, by rw [HY9.out]; exact HVT.out.1, HLE7.out.2, by rw [HY9.out]; exact HVT.out.2, HC9.out, (Or.inl (L9_y28.out.en.weak HWL9.out)), (Or.inr ⟨vb, (⟨y0.x, a9, ac9⟩ : EE), rfl, rfl, X_y28.out, HVB.out.1, ⟨P9_y28.out.1, fun b o e => by have h1 := P9_y28.out.2 b o e; have h2 := HBW.out; omega⟩, HEY.out⟩), B_y28.out⟩
      · go_simp
        refine (HSAM.out s n A7 c7 ys7 A9 c9 ys9 y24 L7_y24.out.en.1 L9_y24.out.en.1 HM79.out HLE7.out.1 HP7.out).mono ?_
        rintro e y25 ⟨rfl, hb⟩
        have B_y25 : Hid (Below w.heap.size w y25) := Lib.hid (stepB B_y24.out hb)
        have Q_y25 : Hid (BK 26 y25 gq (quC s n (.slice A l.length c))) := Lib.hid (Q_y24.out.step hb)
        have O_y25 : Hid (BK 36 y25 gm (oqC kd now nn m ma mc x xa xc)) := Lib.hid (O_y24.out.step hb)
        have R_y25 : Hid (BK 26 y25 gz zeroQ) := Lib.hid (R_y24.out.step hb)
        have W_y25 : Hid (w1.heap.size ≤ y25.heap.size) := Lib.hid (Nat.le_trans W_y24.out hb.size)
        have L7_y25 : Hid (EM5 y25 w1.heap.size y18.heap.size A7 ys7) := Lib.hid (EM5.step L7_y24.out hb)
        have P7_y25 : Hid (PN y25 w1.heap.size a7 y0.x.m.props) := Lib.hid (PN.step P7_y24.out hb)
        have E1_y25 : Hid (BK 34 y25 gE1 (enX y0.x a7 ac7)) := Lib.hid (E1_y24.out.step hb)
        have T1_y25 : Hid (BK 26 y25 gT1 (quC s n (.slice A7 ys7.length c7))) := Lib.hid (T1_y24.out.step hb)
        have L9_y25 : Hid (EM5 y25 y20.heap.size y21.heap.size A9 ys9) := Lib.hid (EM5.step L9_y24.out hb)
        have P9_y25 : Hid (PN y25 y20.heap.size a9 y0.x.m.props) := Lib.hid (PN.step P9_y24.out hb)
        have E2_y25 : Hid (BK 34 y25 gE2 (enX y0.x a9 ac9)) := Lib.hid (E2_y24.out.step hb)
        have T2_y25 : Hid (BK 26 y25 gT2 (quC s n (.slice A9 ys9.length c9))) := Lib.hid (T2_y24.out.step hb)
        clear B_y24 Q_y24 O_y24 R_y24 W_y24 L7_y24 P7_y24 E1_y24 T1_y24 L9_y24 P9_y24 E2_y24 T2_y24
        clear hHeld hb
        go_wp2_with fail
        refine hK.out _ _ ⟨T1_y25.out, T2_y25.out, E1_y25.out, E2_y25.out⟩ (fun hHeld => ?_)
        clear hK K
        try simp only [Act.put, List.setIfInBounds_toArray, List.set_cons_zero, List.set_cons_succ]
        refine wpAnyH_take (i := 8) (v := (.bool true)) (get_ops _ _ _ rfl) (by kernel_rfl) (by kernel_rfl) (by kernel_rfl) (fun _ _ _ h => h) (Or.inl ⟨by rfl, fun wS hSw => by (try dsimp only at hSw); go_simp⟩) hHeld ?_
        try simp only [Act.put, List.setIfInBounds_toArray, List.set_cons_zero, List.set_cons_succ]
        refine wpAnyH_take (i := 9) (v := (.bool true)) (get_ops _ _ _ rfl) (by kernel_rfl) (by kernel_rfl) (by kernel_rfl) (fun _ _ _ h => h) (Or.inl ⟨by rfl, fun wS hSw => by (try dsimp only at hSw); go_simp⟩) hHeld ?_
        try simp only [Act.put, List.setIfInBounds_toArray, List.set_cons_zero, List.set_cons_succ]
        refine wpAnyH_take (i := 10) (v := (.agg (enX y0.x a7 ac7).toArray)) (get_ops _ _ _ rfl) (by kernel_rfl) (by kernel_rfl) (by kernel_rfl) (fun _ _ _ h => h) (Or.inl ⟨by rfl, fun wS hSw => by (try dsimp only at hSw); exact exec_load 34 _ rfl ⟨gE1, 0, none⟩ (by go_simp) _ (load_en0 hSw.2.2.1)⟩) hHeld ?_
        try simp only [Act.put, List.setIfInBounds_toArray, List.set_cons_zero, List.set_cons_succ]
        refine wpAnyH_take (i := 11) (v := (.agg (enX y0.x a9 ac9).toArray)) (get_ops _ _ _ rfl) (by kernel_rfl) (by kernel_rfl) (by kernel_rfl) (fun _ _ _ h => h) (Or.inl ⟨by rfl, fun wS hSw => by (try dsimp only at hSw); exact exec_load 34 _ rfl ⟨gE2, 0, none⟩ (by go_simp) _ (load_en0 hSw.2.2.2)⟩) hHeld ?_
        try simp only [Act.put, List.setIfInBounds_toArray, List.set_cons_zero, List.set_cons_succ]
        refine wpAnyH_ready (rs := [2, 12]) (by kernel_rfl) (by simp) ?_
        refine (AllReadyH.cons (get_ops _ _ _ rfl) (fun K hK => ?_) (AllReadyH.cons (get_ops _ _ _ rfl) (fun K hK => ?_) AllReadyH.nil))
        · have HVB0 : Hid (w.heap.size ≤ y25.heap.size ∧ gz < y25.heap.size) := Lib.hid ⟨B_y25.out.size, R_y25.out.lt⟩
          go_simp
          obtain ⟨vb, hvb⟩ : ∃ n, n = y25.heap.size := ⟨_, rfl⟩
          have HVB : Hid (w.heap.size ≤ vb ∧ gz < vb) := Lib.hid (by rw [hvb]; exact HVB0.out)
          refine name_world (C := fun w9 => K _ w9) (y25.alloc (.cells (gE (⟨y0.x, a9, ac9⟩ : EE)).toArray 34)) ?_
          intro y26 hy26
          have hb : Below y25.heap.size y25 y26 := by rw [hy26]; exact S2.below_new _ _
          have hN : BK 34 y26 vb (gE (⟨y0.x, a9, ac9⟩ : EE)) := by rw [hy26, hvb]; exact BK.new _ _ _
          have B_y26 : Hid (Below w.heap.size w y26) := Lib.hid (stepB B_y25.out hb)
          have Q_y26 : Hid (BK 26 y26 gq (quC s n (.slice A l.length c))) := Lib.hid (Q_y25.out.step hb)
          have O_y26 : Hid (BK 36 y26 gm (oqC kd now nn m ma mc x xa xc)) := Lib.hid (O_y25.out.step hb)
          have R_y26 : Hid (BK 26 y26 gz zeroQ) := Lib.hid (R_y25.out.step hb)
          have W_y26 : Hid (w1.heap.size ≤ y26.heap.size) := Lib.hid (Nat.le_trans W_y25.out hb.size)
          have L7_y26 : Hid (EM5 y26 w1.heap.size y18.heap.size A7 ys7) := Lib.hid (EM5.step L7_y25.out hb)
          have P7_y26 : Hid (PN y26 w1.heap.size a7 y0.x.m.props) := Lib.hid (PN.step P7_y25.out hb)
          have E1_y26 : Hid (BK 34 y26 gE1 (enX y0.x a7 ac7)) := Lib.hid (E1_y25.out.step hb)
          have T1_y26 : Hid (BK 26 y26 gT1 (quC s n (.slice A7 ys7.length c7))) := Lib.hid (T1_y25.out.step hb)
          have L9_y26 : Hid (EM5 y26 y20.heap.size y21.heap.size A9 ys9) := Lib.hid (EM5.step L9_y25.out hb)
          have P9_y26 : Hid (PN y26 y20.heap.size a9 y0.x.m.props) := Lib.hid (PN.step P9_y25.out hb)
          have E2_y26 : Hid (BK 34 y26 gE2 (enX y0.x a9 ac9)) := Lib.hid (E2_y25.out.step hb)
          have T2_y26 : Hid (BK 26 y26 gT2 (quC s n (.slice A9 ys9.length c9))) := Lib.hid (T2_y25.out.step hb)
          clear B_y25 Q_y25 O_y25 R_y25 W_y25 L7_y25 P7_y25 E1_y25 T1_y25 L9_y25 P9_y25 E2_y25 T2_y25
          have X_y26 := Lib.hid hN
          try rw [← hvb]
          clear hHeld hb hN hy26 hvb
          refine hK.out _ _ ⟨T1_y26.out, T2_y26.out, E1_y26.out, E2_y26.out⟩ (fun hHeld => ?_)
          clear hK K
          try simp only [Act.put, List.setIfInBounds_toArray, List.set_cons_zero, List.set_cons_succ]
          refine wpAnyH_ready (rs := [12]) (by kernel_rfl) (by simp) ?_
          refine (AllReadyH.cons (get_ops _ _ _ rfl) (fun K hK => ?_) AllReadyH.nil)
          go_simp
          refine (HSE.out y26 P7_y26.out.1 P9_y26.out.1).mono ?_
          rintro e y27 ⟨rfl, hb⟩
          have B_y27 : Hid (Below w.heap.size w y27) := Lib.hid (stepB B_y26.out hb)
          have Q_y27 : Hid (BK 26 y27 gq (quC s n (.slice A l.length c))) := Lib.hid (Q_y26.out.step hb)
          have O_y27 : Hid (BK 36 y27 gm (oqC kd now nn m ma mc x xa xc)) := Lib.hid (O_y26.out.step hb)
          have R_y27 : Hid (BK 26 y27 gz zeroQ) := Lib.hid (R_y26.out.step hb)
          have W_y27 : Hid (w1.heap.size ≤ y27.heap.size) := Lib.hid (Nat.le_trans W_y26.out hb.size)
          have L7_y27 : Hid (EM5 y27 w1.heap.size y18.heap.size A7 ys7) := Lib.hid (EM5.step L7_y26.out hb)
          have P7_y27 : Hid (PN y27 w1.heap.size a7 y0.x.m.props) := Lib.hid (PN.step P7_y26.out hb)
          have E1_y27 : Hid (BK 34 y27 gE1 (enX y0.x a7 ac7)) := Lib.hid (E1_y26.out.step hb)
          have T1_y27 : Hid (BK 26 y27 gT1 (quC s n (.slice A7 ys7.length c7))) := Lib.hid (T1_y26.out.step hb)
          have L9_y27 : Hid (EM5 y27 y20.heap.size y21.heap.size A9 ys9) := Lib.hid (EM5.step L9_y26.out hb)
          have P9_y27 : Hid (PN y27 y20.heap.size a9 y0.x.m.props) := Lib.hid (PN.step P9_y26.out hb)
          have E2_y27 : Hid (BK 34 y27 gE2 (enX y0.x a9 ac9)) := Lib.hid (E2_y26.out.step hb)
          have T2_y27 : Hid (BK 26 y27 gT2 (quC s n (.slice A9 ys9.length c9))) := Lib.hid (T2_y26.out.step hb)
          have X_y27 : Hid (BK 34 y27 vb (gE (⟨y0.x, a9, ac9⟩ : EE))) := Lib.hid (X_y26.out.step hb)
          clear B_y26 Q_y26 O_y26 R_y26 W_y26 L7_y26 P7_y26 E1_y26 T1_y26 L9_y26 P9_y26 E2_y26 T2_y26 X_y26
          clear hHeld hb
          go_wp2_with fail
          refine hK.out _ _ ⟨T1_y27.out, T2_y27.out, E1_y27.out, E2_y27.out⟩ (fun hHeld => ?_)
          clear hK K
          try simp only [Act.put, List.setIfInBounds_toArray, List.set_cons_zero, List.set_cons_succ]
          refine wpAnyH_take (i := 13) (v := (.bool true)) (get_ops _ _ _ rfl) (by kernel_rfl) (by kernel_rfl) (by kernel_rfl) (fun _ _ _ h => h) (Or.inl ⟨by rfl, fun wS hSw => by (try dsimp only at hSw); go_simp⟩) hHeld ?_
          try simp only [Act.put, List.setIfInBounds_toArray, List.set_cons_zero, List.set_cons_succ]
          refine wpAnyH_ready (rs := [14]) (by kernel_rfl) (by simp) ?_
          refine (AllReadyH.cons (get_ops _ _ _ rfl) (fun K hK => ?_) AllReadyH.nil)
          refine S2.wp_store_all 26 _ _ rfl rfl gz (by go_simp) (quC s n (.slice A9 ys9.length c9)) (by first | rfl | go_simp) 26 _ R_y27.out quSize rfl (quC_one _ rfl) ?_
          intro y28 hM hP
          have R_y28 : Hid (BK 26 y28 gz (quC s n (.slice A9 ys9.length c9))) := Lib.hid (hM)
          have B_y28 : Hid (Below w.heap.size w y28) := Lib.hid (hP.below B_y27.out (by have := HG.out; omega))
          have Q_y28 : Hid (BK 26 y28 gq (quC s n (.slice A l.length c))) := Lib.hid (hP.other Q_y27.out (by have := HG.out; omega))
          have O_y28 : Hid (BK 36 y28 gm (oqC kd now nn m ma mc x xa xc)) := Lib.hid (hP.other O_y27.out (by have := HG.out; omega))
          have W_y28 : Hid (w1.heap.size ≤ y28.heap.size) := Lib.hid (by have h9 := hP.size; have h8 := W_y27.out; omega)
          have L7_y28 : Hid (EM5 y28 w1.heap.size y18.heap.size A7 ys7) := Lib.hid (EM5.put2 L7_y27.out hP HB7.out)
          have P7_y28 : Hid (PN y28 w1.heap.size a7 y0.x.m.props) := Lib.hid (PN.put P7_y27.out hP HB7.out)
          have E1_y28 : Hid (BK 34 y28 gE1 (enX y0.x a7 ac7)) := Lib.hid (hP.other E1_y27.out (by have := HGE1.out; omega))
          have T1_y28 : Hid (BK 26 y28 gT1 (quC s n (.slice A7 ys7.length c7))) := Lib.hid (hP.other T1_y27.out (by have := HGE1.out; omega))
          have L9_y28 : Hid (EM5 y28 y20.heap.size y21.heap.size A9 ys9) := Lib.hid (EM5.put2 L9_y27.out hP HB9.out)
          have P9_y28 : Hid (PN y28 y20.heap.size a9 y0.x.m.props) := Lib.hid (PN.put P9_y27.out hP HB9.out)
          have E2_y28 : Hid (BK 34 y28 gE2 (enX y0.x a9 ac9)) := Lib.hid (hP.other E2_y27.out (by have := HGE2.out; omega))
          have T2_y28 : Hid (BK 26 y28 gT2 (quC s n (.slice A9 ys9.length c9))) := Lib.hid (hP.other T2_y27.out (by have := HGE2.out; omega))
          have X_y28 : Hid (BK 34 y28 vb (gE (⟨y0.x, a9, ac9⟩ : EE))) := Lib.hid (hP.other X_y27.out (by have := HVB.out.2; omega))
          clear B_y27 Q_y27 O_y27 R_y27 W_y27 L7_y27 P7_y27 E1_y27 T1_y27 L9_y27 P9_y27 E2_y27 T2_y27 X_y27
          clear hM hP hHeld
          refine hK.out _ _ ⟨T1_y28.out, T2_y28.out, E1_y28.out, E2_y28.out⟩ (fun hHeld => ?_)
          clear hK K
          try simp only [Act.put, List.setIfInBounds_toArray, List.set_cons_zero, List.set_cons_succ]
          refine wpAnyH_take (i := 15) (v := (.slice (some ⟨vb, 0, none⟩) 1 1)) (get_ops _ _ _ rfl) (by kernel_rfl) (by kernel_rfl) (by kernel_rfl) (fun _ _ _ h => h) (Or.inl ⟨by rfl, fun wS hSw => by (try dsimp only at hSw); go_simp⟩) hHeld ?_
          try simp only [Act.put, List.setIfInBounds_toArray, List.set_cons_zero, List.set_cons_succ]
          refine wpAnyH_take (i := 16) (v := (.bool true)) (get_ops _ _ _ rfl) (by kernel_rfl) (by kernel_rfl) (by kernel_rfl) (fun _ _ _ h => h) (Or.inl ⟨by rfl, fun wS hSw => by (try dsimp only at hSw); go_simp⟩) hHeld ?_
          try simp only [Act.put, List.setIfInBounds_toArray, List.set_cons_zero, List.set_cons_succ]
          refine wpAnyH_done (by kernel_rfl) ?_ _
          go_wp2_with fail
          exact bodyPost_ret (v := .tuple #[.agg (quC s n (.slice A9 ys9.length c9)).toArray, (.slice (some ⟨vb, 0, none⟩) 1 1), .bool true]) (res_ctt rfl _ _ gz 26 (quC s n (.slice A9 ys9.length c9)) _ _ _ rfl rfl rfl R_y28.out Tryd.underlying26 rfl quSize) rfl ⟨n, A9, c9, ys9, (.slice (some ⟨vb, 0, none⟩) 1 1), [(⟨y0.x, a9, ac9⟩ : EE)], rfl, by rw [HY9.out]; exact HVT.out.1, HLE7.out.2, by rw [HY9.out]; exact HVT.out.2, HC9.out, (Or.inl (L9_y28.out.en.weak HWL9.out)), (Or.inr ⟨vb, (⟨y0.x, a9, ac9⟩ : EE), rfl, rfl, X_y28.out, HVB.out.1, ⟨P9_y28.out.1, fun b o e => by have h1 := P9_y28.out.2 b o e; have h2 := HBW.out; omega⟩, HEY.out⟩), B_y28.out⟩
        · go_simp
          refine (HSE.out y25 P7_y25.out.1 P9_y25.out.1).mono ?_
          rintro e y26 ⟨rfl, hb⟩
          have B_y26 : Hid (Below w.heap.size w y26) := Lib.hid (stepB B_y25.out hb)
          have Q_y26 : Hid (BK 26 y26 gq (quC s n (.slice A l.length c))) := Lib.hid (Q_y25.out.step hb)
          have O_y26 : Hid (BK 36 y26 gm (oqC kd now nn m ma mc x xa xc)) := Lib.hid (O_y25.out.step hb)
          have R_y26 : Hid (BK 26 y26 gz zeroQ) := Lib.hid (R_y25.out.step hb)
          have W_y26 : Hid (w1.heap.size ≤ y26.heap.size) := Lib.hid (Nat.le_trans W_y25.out hb.size)
          have L7_y26 : Hid (EM5 y26 w1.heap.size y18.heap.size A7 ys7) := Lib.hid (EM5.step L7_y25.out hb)
          have P7_y26 : Hid (PN y26 w1.heap.size a7 y0.x.m.props) := Lib.hid (PN.step P7_y25.out hb)
          have E1_y26 : Hid (BK 34 y26 gE1 (enX y0.x a7 ac7)) := Lib.hid (E1_y25.out.step hb)
          have T1_y26 : Hid (BK 26 y26 gT1 (quC s n (.slice A7 ys7.length c7))) := Lib.hid (T1_y25.out.step hb)
          have L9_y26 : Hid (EM5 y26 y20.heap.size y21.heap.size A9 ys9) := Lib.hid (EM5.step L9_y25.out hb)
          have P9_y26 : Hid (PN y26 y20.heap.size a9 y0.x.m.props) := Lib.hid (PN.step P9_y25.out hb)
          have E2_y26 : Hid (BK 34 y26 gE2 (enX y0.x a9 ac9)) := Lib.hid (E2_y25.out.step hb)
          have T2_y26 : Hid (BK 26 y26 gT2 (quC s n (.slice A9 ys9.length c9))) := Lib.hid (T2_y25.out.step hb)
          clear B_y25 Q_y25 O_y25 R_y25 W_y25 L7_y25 P7_y25 E1_y25 T1_y25 L9_y25 P9_y25 E2_y25 T2_y25
          clear hHeld hb
          go_wp2_with fail
          refine hK.out _ _ ⟨T1_y26.out, T2_y26.out, E1_y26.out, E2_y26.out⟩ (fun hHeld => ?_)
          clear hK K
          try simp only [Act.put, List.setIfInBounds_toArray, List.set_cons_zero, List.set_cons_succ]
          refine wpAnyH_take (i := 13) (v := (.bool true)) (get_ops _ _ _ rfl) (by kernel_rfl) (by kernel_rfl) (by kernel_rfl) (fun _ _ _ h => h) (Or.inl ⟨by rfl, fun wS hSw => by (try dsimp only at hSw); go_simp⟩) hHeld ?_
          try simp only [Act.put, List.setIfInBounds_toArray, List.set_cons_zero, List.set_cons_succ]
          refine wpAnyH_ready (rs := [2, 14]) (by kernel_rfl) (by simp) ?_
          refine (AllReadyH.cons (get_ops _ _ _ rfl) (fun K hK => ?_) (AllReadyH.cons (get_ops _ _ _ rfl) (fun K hK => ?_) AllReadyH.nil))
          · have HVB0 : Hid (w.heap.size ≤ y26.heap.size ∧ gz < y26.heap.size) := Lib.hid ⟨B_y26.out.size, R_y26.out.lt⟩
            go_simp
            obtain ⟨vb, hvb⟩ : ∃ n, n = y26.heap.size := ⟨_, rfl⟩
            have HVB : Hid (w.heap.size ≤ vb ∧ gz < vb) := Lib.hid (by rw [hvb]; exact HVB0.out)
            refine name_world (C := fun w9 => K _ w9) (y26.alloc (.cells (gE (⟨y0.x, a9, ac9⟩ : EE)).toArray 34)) ?_
            intro y27 hy27
            have hb : Below y26.heap.size y26 y27 := by rw [hy27]; exact S2.below_new _ _
            have hN : BK 34 y27 vb (gE (⟨y0.x, a9, ac9⟩ : EE)) := by rw [hy27, hvb]; exact BK.new _ _ _
            have B_y27 : Hid (Below w.heap.size w y27) := Lib.hid (stepB B_y26.out hb)
            have Q_y27 : Hid (BK 26 y27 gq (quC s n (.slice A l.length c))) := Lib.hid (Q_y26.out.step hb)
            have O_y27 : Hid (BK 36 y27 gm (oqC kd now nn m ma mc x xa xc)) := Lib.hid (O_y26.out.step hb)
            have R_y27 : Hid (BK 26 y27 gz zeroQ) := Lib.hid (R_y26.out.step hb)
            have W_y27 : Hid (w1.heap.size ≤ y27.heap.size) := Lib.hid (Nat.le_trans W_y26.out hb.size)
            have L7_y27 : Hid (EM5 y27 w1.heap.size y18.heap.size A7 ys7) := Lib.hid (EM5.step L7_y26.out hb)
            have P7_y27 : Hid (PN y27 w1.heap.size a7 y0.x.m.props) := Lib.hid (PN.step P7_y26.out hb)
            have E1_y27 : Hid (BK 34 y27 gE1 (enX y0.x a7 ac7)) := Lib.hid (E1_y26.out.step hb)
            have T1_y27 : Hid (BK 26 y27 gT1 (quC s n (.slice A7 ys7.length c7))) := Lib.hid (T1_y26.out.step hb)
            have L9_y27 : Hid (EM5 y27 y20.heap.size y21.heap.size A9 ys9) := Lib.hid (EM5.step L9_y26.out hb)
            have P9_y27 : Hid (PN y27 y20.heap.size a9 y0.x.m.props) := Lib.hid (PN.step P9_y26.out hb)
            have E2_y27 : Hid (BK 34 y27 gE2 (enX y0.x a9 ac9)) := Lib.hid (E2_y26.out.step hb)
            have T2_y27 : Hid (BK 26 y27 gT2 (quC s n (.slice A9 ys9.length c9))) := Lib.hid (T2_y26.out.step hb)
            clear B_y26 Q_y26 O_y26 R_y26 W_y26 L7_y26 P7_y26 E1_y26 T1_y26 L9_y26 P9_y26 E2_y26 T2_y26
            have X_y27 := Lib.hid hN
            try rw [← hvb]
            clear hHeld hb hN hy27 hvb
            refine hK.out _ _ ⟨T1_y27.out, T2_y27.out, E1_y27.out, E2_y27.out⟩ (fun hHeld => ?_)
            clear hK K
            try simp only [Act.put, List.setIfInBounds_toArray, List.set_cons_zero, List.set_cons_succ]
            refine wpAnyH_ready (rs := [14]) (by kernel_rfl) (by simp) ?_
            refine (AllReadyH.cons (get_ops _ _ _ rfl) (fun K hK => ?_) AllReadyH.nil)
            refine S2.wp_store_all 26 _ _ rfl rfl gz (by go_simp) (quC s n (.slice A9 ys9.length c9)) (by first | rfl | go_simp) 26 _ R_y27.out quSize rfl (quC_one _ rfl) ?_
            intro y28 hM hP
            have R_y28 : Hid (BK 26 y28 gz (quC s n (.slice A9 ys9.length c9))) := Lib.hid (hM)
            have B_y28 : Hid (Below w.heap.size w y28) := Lib.hid (hP.below B_y27.out (by have := HG.out; omega))
            have Q_y28 : Hid (BK 26 y28 gq (quC s n (.slice A l.length c))) := Lib.hid (hP.other Q_y27.out (by have := HG.out; omega))
            have O_y28 : Hid (BK 36 y28 gm (oqC kd now nn m ma mc x xa xc)) := Lib.hid (hP.other O_y27.out (by have := HG.out; omega))
            have W_y28 : Hid (w1.heap.size ≤ y28.heap.size) := Lib.hid (by have h9 := hP.size; have h8 := W_y27.out; omega)
            have L7_y28 : Hid (EM5 y28 w1.heap.size y18.heap.size A7 ys7) := Lib.hid (EM5.put2 L7_y27.out hP HB7.out)
            have P7_y28 : Hid (PN y28 w1.heap.size a7 y0.x.m.props) := Lib.hid (PN.put P7_y27.out hP HB7.out)
            have E1_y28 : Hid (BK 34 y28 gE1 (enX y0.x a7 ac7)) := Lib.hid (hP.other E1_y27.out (by have := HGE1.out; omega))
            have T1_y28 : Hid (BK 26 y28 gT1 (quC s n (.slice A7 ys7.length c7))) := Lib.hid (hP.other T1_y27.out (by have := HGE1.out; omega))
            have L9_y28 : Hid (EM5 y28 y20.heap.size y21.heap.size A9 ys9) := Lib.hid (EM5.put2 L9_y27.out hP HB9.out)
            have P9_y28 : Hid (PN y28 y20.heap.size a9 y0.x.m.props) := Lib.hid (PN.put P9_y27.out hP HB9.out)
            have E2_y28 : Hid (BK 34 y28 gE2 (enX y0.x a9 ac9)) := Lib.hid (hP.other E2_y27.out (by have := HGE2.out; omega))
            have T2_y28 : Hid (BK 26 y28 gT2 (quC s n (.slice A9 ys9.length c9))) := Lib.hid (hP.other T2_y27.out (by have := HGE2.out; omega))
            have X_y28 : Hid (BK 34 y28 vb (gE (⟨y0.x, a9, ac9⟩ : EE))) := Lib.hid (hP.other X_y27.out (by have := HVB.out.2; omega))
            clear B_y27 Q_y27 O_y27 R_y27 W_y27 L7_y27 P7_y27 E1_y27 T1_y27 L9_y27 P9_y27 E2_y27 T2_y27 X_y27
            clear hM hP hHeld
            refine hK.out _ _ ⟨T1_y28.out, T2_y28.out, E1_y28.out, E2_y28.out⟩ (fun hHeld => ?_)
            clear hK K
            try simp only [Act.put, List.setIfInBounds_toArray, List.set_cons_zero, List.set_cons_succ]
            refine wpAnyH_take (i := 15) (v := (.slice (some ⟨vb, 0, none⟩) 1 1)) (get_ops _ _ _ rfl) (by kernel_rfl) (by kernel_rfl) (by kernel_rfl) (fun _ _ _ h => h) (Or.inl ⟨by rfl, fun wS hSw => by (try dsimp only at hSw); go_simp⟩) hHeld ?_
            try simp only [Act.put, List.setIfInBounds_toArray, List.set_cons_zero, List.set_cons_succ]
            refine wpAnyH_take (i := 16) (v := (.bool true)) (get_ops _ _ _ rfl) (by kernel_rfl) (by kernel_rfl) (by kernel_rfl) (fun _ _ _ h => h) (Or.inl ⟨by rfl, fun wS hSw => by (try dsimp only at hSw); go_simp⟩) hHeld ?_
            try simp only [Act.put, List.setIfInBounds_toArray, List.set_cons_zero, List.set_cons_succ]
            refine wpAnyH_done (by kernel_rfl) ?_ _
            go_wp2_with fail
            exact bodyPost_ret (v := .tuple #[.agg (quC s n (.slice A9 ys9.length c9)).toArray, (.slice (some ⟨vb, 0, none⟩) 1 1), .bool true]) (res_ctt rfl _ _ gz 26 (quC s n (.slice A9 ys9.length c9)) _ _ _ rfl rfl rfl R_y28.out Tryd.underlying26 rfl quSize) rfl ⟨n, A9, c9, ys9, (.slice (some ⟨vb, 0, none⟩) 1 1), [(⟨y0.x, a9, ac9⟩ : EE)], rfl, by rw [HY9.out]; exact HVT.out.1, HLE7.out.2, by rw [HY9.out]; exact HVT.out.2, HC9.out, (Or.inl (L9_y28.out.en.weak HWL9.out)), (Or.inr ⟨vb, (⟨y0.x, a9, ac9⟩ : EE), rfl, rfl, X_y28.out, HVB.out.1, ⟨P9_y28.out.1, fun b o e => by have h1 := P9_y28.out.2 b o e; have h2 := HBW.out; omega⟩, HEY.out⟩), B_y28.out⟩
          · refine S2.wp_store_all 26 _ _ rfl rfl gz (by go_simp) (quC s n (.slice A9 ys9.length c9)) (by first | rfl | go_simp) 26 _ R_y26.out quSize rfl (quC_one _ rfl) ?_
            intro y27 hM hP
            have R_y27 : Hid (BK 26 y27 gz (quC s n (.slice A9 ys9.length c9))) := Lib.hid (hM)
            have B_y27 : Hid (Below w.heap.size w y27) := Lib.hid (hP.below B_y26.out (by have := HG.out; omega))
            have Q_y27 : Hid (BK 26 y27 gq (quC s n (.slice A l.length c))) := Lib.hid (hP.other Q_y26.out (by have := HG.out; omega))
            have O_y27 : Hid (BK 36 y27 gm (oqC kd now nn m ma mc x xa xc)) := Lib.hid (hP.other O_y26.out (by have := HG.out; omega))
            have W_y27 : Hid (w1.heap.size ≤ y27.heap.size) := Lib.hid (by have h9 := hP.size; have h8 := W_y26.out; omega)
            have L7_y27 : Hid (EM5 y27 w1.heap.size y18.heap.size A7 ys7) := Lib.hid (EM5.put2 L7_y26.out hP HB7.out)
            have P7_y27 : Hid (PN y27 w1.heap.size a7 y0.x.m.props) := Lib.hid (PN.put P7_y26.out hP HB7.out)
            have E1_y27 : Hid (BK 34 y27 gE1 (enX y0.x a7 ac7)) := Lib.hid (hP.other E1_y26.out (by have := HGE1.out; omega))
            have T1_y27 : Hid (BK 26 y27 gT1 (quC s n (.slice A7 ys7.length c7))) := Lib.hid (hP.other T1_y26.out (by have := HGE1.out; omega))
            have L9_y27 : Hid (EM5 y27 y20.heap.size y21.heap.size A9 ys9) := Lib.hid (EM5.put2 L9_y26.out hP HB9.out)
            have P9_y27 : Hid (PN y27 y20.heap.size a9 y0.x.m.props) := Lib.hid (PN.put P9_y26.out hP HB9.out)
            have E2_y27 : Hid (BK 34 y27 gE2 (enX y0.x a9 ac9)) := Lib.hid (hP.other E2_y26.out (by have := HGE2.out; omega))
            have T2_y27 : Hid (BK 26 y27 gT2 (quC s n (.slice A9 ys9.length c9))) := Lib.hid (hP.other T2_y26.out (by have := HGE2.out; omega))
            clear B_y26 Q_y26 O_y26 R_y26 W_y26 L7_y26 P7_y26 E1_y26 T1_y26 L9_y26 P9_y26 E2_y26 T2_y26
            clear hM hP hHeld
            refine hK.out _ _ ⟨T1_y27.out, T2_y27.out, E1_y27.out, E2_y27.out⟩ (fun hHeld => ?_)
            clear hK K
            try simp only [Act.put, List.setIfInBounds_toArray, List.set_cons_zero, List.set_cons_succ]
            refine wpAnyH_ready (rs := [2]) (by kernel_rfl) (by simp) ?_
            refine (AllReadyH.cons (get_ops _ _ _ rfl) (fun K hK => ?_) AllReadyH.nil)
            have HVB0 : Hid (w.heap.size ≤ y27.heap.size ∧ gz < y27.heap.size) := Lib.hid ⟨B_y27.out.size, R_y27.out.lt⟩
            go_simp
            obtain ⟨vb, hvb⟩ : ∃ n, n = y27.heap.size := ⟨_, rfl⟩
            have HVB : Hid (w.heap.size ≤ vb ∧ gz < vb) := Lib.hid (by rw [hvb]; exact HVB0.out)
            refine name_world (C := fun w9 => K _ w9) (y27.alloc (.cells (gE (⟨y0.x, a9, ac9⟩ : EE)).toArray 34)) ?_
            intro y28 hy28
            have hb : Below y27.heap.size y27 y28 := by rw [hy28]; exact S2.below_new _ _
            have hN : BK 34 y28 vb (gE (⟨y0.x, a9, ac9⟩ : EE)) := by rw [hy28, hvb]; exact BK.new _ _ _
            have B_y28 : Hid (Below w.heap.size w y28) := Lib.hid (stepB B_y27.out hb)
            have Q_y28 : Hid (BK 26 y28 gq (quC s n (.slice A l.length c))) := Lib.hid (Q_y27.out.step hb)
            have O_y28 : Hid (BK 36 y28 gm (oqC kd now nn m ma mc x xa xc)) := Lib.hid (O_y27.out.step hb)
            have R_y28 : Hid (BK 26 y28 gz (quC s n (.slice A9 ys9.length c9))) := Lib.hid (R_y27.out.step hb)
            have W_y28 : Hid (w1.heap.size ≤ y28.heap.size) := Lib.hid (Nat.le_trans W_y27.out hb.size)
            have L7_y28 : Hid (EM5 y28 w1.heap.size y18.heap.size A7 ys7) := Lib.hid (EM5.step L7_y27.out hb)
            have P7_y28 : Hid (PN y28 w1.heap.size a7 y0.x.m.props) := Lib.hid (PN.step P7_y27.out hb)
            have E1_y28 : Hid (BK 34 y28 gE1 (enX y0.x a7 ac7)) := Lib.hid (E1_y27.out.step hb)
            have T1_y28 : Hid (BK 26 y28 gT1 (quC s n (.slice A7 ys7.length c7))) := Lib.hid (T1_y27.out.step hb)
            have L9_y28 : Hid (EM5 y28 y20.heap.size y21.heap.size A9 ys9) := Lib.hid (EM5.step L9_y27.out hb)
            have P9_y28 : Hid (PN y28 y20.heap.size a9 y0.x.m.props) := Lib.hid (PN.step P9_y27.out hb)
            have E2_y28 : Hid (BK 34 y28 gE2 (enX y0.x a9 ac9)) := Lib.hid (E2_y27.out.step hb)
            have T2_y28 : Hid (BK 26 y28 gT2 (quC s n (.slice A9 ys9.length c9))) := Lib.hid (T2_y27.out.step hb)
            clear B_y27 Q_y27 O_y27 R_y27 W_y27 L7_y27 P7_y27 E1_y27 T1_y27 L9_y27 P9_y27 E2_y27 T2_y27
            have X_y28 := Lib.hid hN
            try rw [← hvb]
            clear hHeld hb hN hy28 hvb
            refine hK.out _ _ ⟨T1_y28.out, T2_y28.out, E1_y28.out, E2_y28.out⟩ (fun hHeld => ?_)
            clear hK K
            try simp only [Act.put, List.setIfInBounds_toArray, List.set_cons_zero, List.set_cons_succ]
            refine wpAnyH_take (i := 15) (v := (.slice (some ⟨vb, 0, none⟩) 1 1)) (get_ops _ _ _ rfl) (by kernel_rfl) (by kernel_rfl) (by kernel_rfl) (fun _ _ _ h => h) (Or.inl ⟨by rfl, fun wS hSw => by (try dsimp only at hSw); go_simp⟩) hHeld ?_
            try simp only [Act.put, List.setIfInBounds_toArray, List.set_cons_zero, List.set_cons_succ]
            refine wpAnyH_take (i := 16) (v := (.bool true)) (get_ops _ _ _ rfl) (by kernel_rfl) (by kernel_rfl) (by kernel_rfl) (fun _ _ _ h => h) (Or.inl ⟨by rfl, fun wS hSw => by (try dsimp only at hSw); go_simp⟩) hHeld ?_
            try simp only [Act.put, List.setIfInBounds_toArray, List.set_cons_zero, List.set_cons_succ]
            refine wpAnyH_done (by kernel_rfl) ?_ _
            go_wp2_with fail
            exact bodyPost_ret (v := .tuple #[.agg (quC s n (.slice A9 ys9.length c9)).toArray, (.slice (some ⟨vb, 0, none⟩) 1 1), .bool true]) (res_ctt rfl _ _ gz 26 (quC s n (.slice A9 ys9.length c9)) _ _ _ rfl rfl rfl R_y28.out Tryd.underlying26 rfl quSize) rfl ⟨n, A9, c9, ys9, (.slice (some ⟨vb, 0, none⟩) 1 1), [(⟨y0.x, a9, ac9⟩ : EE)], rfl, by rw [HY9.out]; exact HVT.out.1, HLE7.out.2, by rw [HY9.out]; exact HVT.out.2, HC9.out, (Or.inl (L9_y28.out.en.weak HWL9.out)), (Or.inr ⟨vb, (⟨y0.x, a9, ac9⟩ : EE), rfl, rfl, X_y28.out, HVB.out.1, ⟨P9_y28.out.1, fun b o e => by have h1 := P9_y28.out.2 b o e; have h2 := HBW.out; omega⟩, HEY.out⟩), B_y28.out⟩
  have e2 : (kd == 1) = false := by simpa using k1
  clear k1
  by_cases k2 : kd = 2
  · have e3 : (kd == 2) = true := by simp [k2]
    clear k2
    go_upto_region 15 with fail
    clear d0 e1 e2 e3
    have hpu := fun w1 h1 h2 h3 => qReturn_any s n A c l x xa xc w1 h1 h2 h3 HVP.out.2.2.2.2.1 (by have := HL.out; omega) HPP.out HVP.out.2.1
    have hpr := fun w1 h1 h2 => rReturn_any s n A c l x xa xc w1 h1 h2 (by have := HL.out; omega) HPP.out HVP.out.2.1 HXZ.out
    have hva : retK n (l.map EE.x) x = 0 → validR s n (insQ (l.map EE.x) x) = 0 := fun h => valid_ret2 HV.out (by have := HLM.out; omega) h
    generalize retK n (l.map EE.x) x = pk at hpu hpr hva
    unfold RetK RetQ quV enW enV at hpu hpr
    by_cases p0 : pk = 0
    · subst p0
      simp only [↓reduceIte] at hpu hpr
      have HQ7 := Lib.hid hpu
      have HR9 := Lib.hid hpr
      have HVAL := Lib.hid (hva rfl)
      clear hpu hpr hva
      go_wp2_with first
        | (refine wpList_load_v (by rfl) 26 (.tmp 2) rfl ⟨gq, 0, none⟩ rfl (.agg (quC s n (.slice A l.length c)).toArray) (load_qu Q_w1.out) ?_)
        | (refine wpList_load_v (by rfl) 34 (.tmp 114) rfl ⟨gm, 12, none⟩ rfl (.agg (enX x xa xc).toArray) (load_oqe3 O_w1.out) ?_)
      have HWZ7 : Hid (w1.heap.size ≤ w1.heap.size) := Lib.hid W_w1.out
      go_wp2_with fail
      refine (HQ7.out w1 (HO.out.step B_w1.out) (HS.out.step B_w1.out) (GL.step HXP.out B_w1.out)).mono ?_
      rintro e y25 ⟨w7v, ys7, rfl, hys, hL, hb⟩
      have B_y25 : Hid (Below w.heap.size w y25) := Lib.hid (stepB B_w1.out hb)
      have Q_y25 : Hid (BK 26 y25 gq (quC s n (.slice A l.length c))) := Lib.hid (Q_w1.out.step hb)
      have O_y25 : Hid (BK 36 y25 gm (oqC kd now nn m ma mc x xa xc)) := Lib.hid (O_w1.out.step hb)
      have R_y25 : Hid (BK 26 y25 gz zeroQ) := Lib.hid (R_w1.out.step hb)
      have W_y25 : Hid (w1.heap.size ≤ y25.heap.size) := Lib.hid (Nat.le_trans W_w1.out hb.size)
      clear B_w1 Q_w1 O_w1 R_w1 W_w1
      obtain ⟨A7, c7, rfl, hc7, hen7⟩ := LN.of gE_len hL
      have HY7 := Lib.hid hys
      have HC7 := Lib.hid hc7
      have HB7 : Hid (gz < w1.heap.size) := Lib.hid (Nat.lt_of_lt_of_le HRW.out HWZ7.out)
      have HWL7 : Hid (w.heap.size ≤ w1.heap.size) := Lib.hid (Nat.le_trans HW1.out HWZ7.out)
      have HWT7 : Hid (w1.heap.size ≤ y25.heap.size) := Lib.hid W_y25.out
      have L7_y25 : Hid (EM5 y25 w1.heap.size y25.heap.size A7 ys7) := Lib.hid (EM5.of hen7)
      clear hL hys hc7 hen7
      clear hb
      go_upto_region 16 with first
        | (refine S2.wpList_store_all (by rfl) 26 (.tmp 17) (.tmp 117) rfl rfl (y25.heap.size) rfl (quC s n (.slice A7 ys7.length c7)) rfl 26 _ (BK.new y25 _ _) quSize rfl (ones rfl) ?_; intro y26 hM hP; have hb : Below y25.heap.size y25 y26 := hP.below (S2.below_new y25 _) (Nat.le_refl _); have B_y26 : Hid (Below w.heap.size w y26) := Lib.hid (stepB B_y25.out hb); have Q_y26 : Hid (BK 26 y26 gq (quC s n (.slice A l.length c))) := Lib.hid (Q_y25.out.step hb); have O_y26 : Hid (BK 36 y26 gm (oqC kd now nn m ma mc x xa xc)) := Lib.hid (O_y25.out.step hb); have R_y26 : Hid (BK 26 y26 gz zeroQ) := Lib.hid (R_y25.out.step hb); have W_y26 : Hid (w1.heap.size ≤ y26.heap.size) := Lib.hid (Nat.le_trans W_y25.out hb.size); have L7_y26 : Hid (EM5 y26 w1.heap.size y25.heap.size A7 ys7) := Lib.hid (EM5.step L7_y25.out hb); have T7_y26 : Hid (BK 26 y26 (y25.heap.size) (quC s n (.slice A7 ys7.length c7))) := Lib.hid hM; clear hM hP hb B_y25 Q_y25 O_y25 R_y25 W_y25 L7_y25)
      obtain ⟨gT7, hgT7⟩ : ∃ b, b = y25.heap.size := ⟨_, rfl⟩
      have HGT7 : Hid (gz < gT7) := Lib.hid (by rw [hgT7]; have h1 := HWT7.out; have h2 := HRW.out; omega)
      rw [← hgT7] at T7_y26
      try rw [← hgT7]
      clear hgT7
      go_wp2_with first
        | (refine wpList_load_v (by rfl) 26 (.tmp 2) rfl ⟨gq, 0, none⟩ rfl (.agg (quC s n (.slice A l.length c)).toArray) (load_qu Q_y26.out) ?_)
        | (refine wpList_load_v (by rfl) 34 (.tmp 121) rfl ⟨gm, 12, none⟩ rfl (.agg (enX x xa xc).toArray) (load_oqe3 O_y26.out) ?_)
      have HWZ9 : Hid (w1.heap.size ≤ y26.heap.size) := Lib.hid W_y26.out
      go_wp2_with fail
      refine (HR9.out y26 (HS.out.step B_y26.out) (GL.step HXP.out B_y26.out)).mono ?_
      rintro e y27 ⟨w9v, ys9, rfl, hys, hL, hb⟩
      have B_y27 : Hid (Below w.heap.size w y27) := Lib.hid (stepB B_y26.out hb)
      have Q_y27 : Hid (BK 26 y27 gq (quC s n (.slice A l.length c))) := Lib.hid (Q_y26.out.step hb)
      have O_y27 : Hid (BK 36 y27 gm (oqC kd now nn m ma mc x xa xc)) := Lib.hid (O_y26.out.step hb)
      have R_y27 : Hid (BK 26 y27 gz zeroQ) := Lib.hid (R_y26.out.step hb)
      have W_y27 : Hid (w1.heap.size ≤ y27.heap.size) := Lib.hid (Nat.le_trans W_y26.out hb.size)
      have L7_y27 : Hid (EM5 y27 w1.heap.size y25.heap.size A7 ys7) := Lib.hid (EM5.step L7_y26.out hb)
      have T7_y27 : Hid (BK 26 y27 gT7 (quC s n (.slice A7 ys7.length c7))) := Lib.hid (T7_y26.out.step hb)
      clear B_y26 Q_y26 O_y26 R_y26 W_y26 L7_y26 T7_y26
      obtain ⟨A9, c9, rfl, hc9, hen9⟩ := LN.of gE_len hL
      have HY9 := Lib.hid hys
      have HC9 := Lib.hid hc9
      have HB9 : Hid (gz < y26.heap.size) := Lib.hid (Nat.lt_of_lt_of_le HRW.out HWZ9.out)
      have HWL9 : Hid (w.heap.size ≤ y26.heap.size) := Lib.hid (Nat.le_trans HW1.out HWZ9.out)
      have HWT9 : Hid (w1.heap.size ≤ y27.heap.size) := Lib.hid W_y27.out
      have L9_y27 : Hid (EM5 y27 y26.heap.size y27.heap.size A9 ys9) := Lib.hid (EM5.of hen9)
      clear hL hys hc9 hen9
      clear hb
      go_upto_region 17 with first
        | (refine S2.wpList_store_all (by rfl) 26 (.tmp 19) (.tmp 124) rfl rfl (y27.heap.size) rfl (quC s n (.slice A9 ys9.length c9)) rfl 26 _ (BK.new y27 _ _) quSize rfl (ones rfl) ?_; intro y28 hM hP; have hb : Below y27.heap.size y27 y28 := hP.below (S2.below_new y27 _) (Nat.le_refl _); have B_y28 : Hid (Below w.heap.size w y28) := Lib.hid (stepB B_y27.out hb); have Q_y28 : Hid (BK 26 y28 gq (quC s n (.slice A l.length c))) := Lib.hid (Q_y27.out.step hb); have O_y28 : Hid (BK 36 y28 gm (oqC kd now nn m ma mc x xa xc)) := Lib.hid (O_y27.out.step hb); have R_y28 : Hid (BK 26 y28 gz zeroQ) := Lib.hid (R_y27.out.step hb); have W_y28 : Hid (w1.heap.size ≤ y28.heap.size) := Lib.hid (Nat.le_trans W_y27.out hb.size); have L7_y28 : Hid (EM5 y28 w1.heap.size y25.heap.size A7 ys7) := Lib.hid (EM5.step L7_y27.out hb); have T7_y28 : Hid (BK 26 y28 gT7 (quC s n (.slice A7 ys7.length c7))) := Lib.hid (T7_y27.out.step hb); have L9_y28 : Hid (EM5 y28 y26.heap.size y27.heap.size A9 ys9) := Lib.hid (EM5.step L9_y27.out hb); have T9_y28 : Hid (BK 26 y28 (y27.heap.size) (quC s n (.slice A9 ys9.length c9))) := Lib.hid hM; clear hM hP hb B_y27 Q_y27 O_y27 R_y27 W_y27 L7_y27 T7_y27 L9_y27)
      obtain ⟨gT9, hgT9⟩ : ∃ b, b = y27.heap.size := ⟨_, rfl⟩
      have HGT9 : Hid (gz < gT9) := Lib.hid (by rw [hgT9]; have h1 := HWT9.out; have h2 := HRW.out; omega)
      rw [← hgT9] at T9_y28
      try rw [← hgT9]
      clear hgT9
      go_upto_region 19 with fail
      have hm79 : ys7.map EE.x = ys9.map EE.x := by rw [HY7.out, HY9.out]
      have HM79 := Lib.hid hm79
      have HLE7 : Hid (ys7.length ≤ 1000 ∧ ys9.length ≤ l.length + 1) := Lib.hid (by have h1 := len_map HY7.out; have h2 := len_map HY9.out; have h3 := HL.out; rw [insQ_len, List.length_map] at h1 h2; omega)
      have HP7 : Hid (∀ y ∈ ys7, y.x.m.props.length ≤ 4398046511104) := Lib.hid (fun y hy => entP ((validR_parts HVAL.out).2.2.2.1 y.x (by rw [← HY7.out]; exact List.mem_map_of_mem hy)))
      clear hm79
      obtain ⟨y29, hy29⟩ : ∃ y29, y29 = World.drew y28 := ⟨_, rfl⟩
      have hbD : Below y28.heap.size y28 y29 := by rw [hy29]; exact (Below.refl _ _).drew
      have B_y29 : Hid (Below w.heap.size w y29) := Lib.hid (stepB B_y28.out hbD)
      have Q_y29 : Hid (BK 26 y29 gq (quC s n (.slice A l.length c))) := Lib.hid (Q_y28.out.step hbD)
      have O_y29 : Hid (BK 36 y29 gm (oqC kd now nn m ma mc x xa xc)) := Lib.hid (O_y28.out.step hbD)
      have R_y29 : Hid (BK 26 y29 gz zeroQ) := Lib.hid (R_y28.out.step hbD)
      have W_y29 : Hid (w1.heap.size ≤ y29.heap.size) := Lib.hid (Nat.le_trans W_y28.out hbD.size)
      have L7_y29 : Hid (EM5 y29 w1.heap.size y25.heap.size A7 ys7) := Lib.hid (EM5.step L7_y28.out hbD)
      have T7_y29 : Hid (BK 26 y29 gT7 (quC s n (.slice A7 ys7.length c7))) := Lib.hid (T7_y28.out.step hbD)
      have L9_y29 : Hid (EM5 y29 y26.heap.size y27.heap.size A9 ys9) := Lib.hid (EM5.step L9_y28.out hbD)
      have T9_y29 : Hid (BK 26 y29 gT9 (quC s n (.slice A9 ys9.length c9))) := Lib.hid (T9_y28.out.step hbD)
      clear B_y28 Q_y28 O_y28 R_y28 W_y28 L7_y28 T7_y28 L9_y28 T9_y28
      have hbd : (fun w' => BK 26 w' gT7 (quC s n (.slice A7 ys7.length c7)) ∧ BK 26 w' gT9 (quC s n (.slice A9 ys9.length c9))) (World.drew y28) := by rw [← hy29]; exact ⟨T7_y29.out, T9_y29.out⟩
      have hSD : (fun w' => BK 26 w' gT7 (quC s n (.slice A7 ys7.length c7)) ∧ BK 26 w' gT9 (quC s n (.slice A9 ys9.length c9))) y29 := ⟨T7_y29.out, T9_y29.out⟩
      have HWD := Lib.hid hy29
      clear hy29 hbD
      refine wp_region_held_drew (S := fun w' => BK 26 w' gT7 (quC s n (.slice A7 ys7.length c7)) ∧ BK 26 w' gT9 (quC s n (.slice A9 ys9.length c9))) (by kernel_rfl) hbd (fun hHeld => ?_)
      rw [← HWD.out]
      clear hHeld
      have hHeld := hSD
      clear hSD hbd HWD
      refine wpAnyH_take (i := 0) (v := (.agg (quC s n (.slice A9 ys9.length c9)).toArray)) (get_ops _ _ _ rfl) (by kernel_rfl) (by kernel_rfl) (by kernel_rfl) (fun _ _ _ h => h) (Or.inl ⟨by rfl, fun wS hSw => by (try dsimp only at hSw); exact exec_load 26 _ rfl ⟨gT9, 0, none⟩ (by go_simp) _ (load_qu hSw.2)⟩) hHeld ?_
      try simp only [Act.put, List.setIfInBounds_toArray, List.set_cons_zero, List.set_cons_succ]
      refine wpAnyH_take (i := 1) (v := (.int .i64 0)) (get_ops _ _ _ rfl) (by kernel_rfl) (by kernel_rfl) (by kernel_rfl) (fun _ _ _ h => h) (Or.inl ⟨by rfl, fun wS hSw => by (try dsimp only at hSw); go_simp⟩) hHeld ?_
      try simp only [Act.put, List.setIfInBounds_toArray, List.set_cons_zero, List.set_cons_succ]
      refine wpAnyH_take (i := 2) (v := (.int .i64 0)) (get_ops _ _ _ rfl) (by kernel_rfl) (by kernel_rfl) (by kernel_rfl) (fun _ _ _ h => h) (Or.inl ⟨by rfl, fun wS hSw => by (try dsimp only at hSw); go_simp⟩) hHeld ?_
      try simp only [Act.put, List.setIfInBounds_toArray, List.set_cons_zero, List.set_cons_succ]
      refine wpAnyH_take (i := 3) (v := (.bool true)) (get_ops _ _ _ rfl) (by kernel_rfl) (by kernel_rfl) (by kernel_rfl) (fun _ _ _ h => h) (Or.inl ⟨by rfl, fun wS hSw => by (try dsimp only at hSw); go_simp⟩) hHeld ?_
      try simp only [Act.put, List.setIfInBounds_toArray, List.set_cons_zero, List.set_cons_succ]
      refine wpAnyH_take (i := 4) (v := (.bool true)) (get_ops _ _ _ rfl) (by kernel_rfl) (by kernel_rfl) (by kernel_rfl) (fun _ _ _ h => h) (Or.inl ⟨by rfl, fun wS hSw => by (try dsimp only at hSw); go_simp⟩) hHeld ?_
      try simp only [Act.put, List.setIfInBounds_toArray, List.set_cons_zero, List.set_cons_succ]
      refine wpAnyH_take (i := 5) (v := (.agg (quC s n (.slice A7 ys7.length c7)).toArray)) (get_ops _ _ _ rfl) (by kernel_rfl) (by kernel_rfl) (by kernel_rfl) (fun _ _ _ h => h) (Or.inl ⟨by rfl, fun wS hSw => by (try dsimp only at hSw); exact exec_load 26 _ rfl ⟨gT7, 0, none⟩ (by go_simp) _ (load_qu hSw.1)⟩) hHeld ?_
      try simp only [Act.put, List.setIfInBounds_toArray, List.set_cons_zero, List.set_cons_succ]
      refine wpAnyH_take (i := 6) (v := (.agg (quC s n (.slice A9 ys9.length c9)).toArray)) (get_ops _ _ _ rfl) (by kernel_rfl) (by kernel_rfl) (by kernel_rfl) (fun _ _ _ h => h) (Or.inl ⟨by rfl, fun wS hSw => by (try dsimp only at hSw); exact exec_load 26 _ rfl ⟨gT9, 0, none⟩ (by go_simp) _ (load_qu hSw.2)⟩) hHeld ?_
      try simp only [Act.put, List.setIfInBounds_toArray, List.set_cons_zero, List.set_cons_succ]
      refine wpAnyH_ready (rs := [7]) (by kernel_rfl) (by simp) ?_
      refine (AllReadyH.cons (get_ops _ _ _ rfl) (fun K hK => ?_) AllReadyH.nil)
      go_simp
      refine (HSAM.out s n A7 c7 ys7 A9 c9 ys9 y29 L7_y29.out.en.1 L9_y29.out.en.1 HM79.out HLE7.out.1 HP7.out).mono ?_
      rintro e y30 ⟨rfl, hb⟩
      have B_y30 : Hid (Below w.heap.size w y30) := Lib.hid (stepB B_y29.out hb)
      have Q_y30 : Hid (BK 26 y30 gq (quC s n (.slice A l.length c))) := Lib.hid (Q_y29.out.step hb)
      have O_y30 : Hid (BK 36 y30 gm (oqC kd now nn m ma mc x xa xc)) := Lib.hid (O_y29.out.step hb)
      have R_y30 : Hid (BK 26 y30 gz zeroQ) := Lib.hid (R_y29.out.step hb)
      have W_y30 : Hid (w1.heap.size ≤ y30.heap.size) := Lib.hid (Nat.le_trans W_y29.out hb.size)
      have L7_y30 : Hid (EM5 y30 w1.heap.size y25.heap.size A7 ys7) := Lib.hid (EM5.step L7_y29.out hb)
      have T7_y30 : Hid (BK 26 y30 gT7 (quC s n (.slice A7 ys7.length c7))) := Lib.hid (T7_y29.out.step hb)
      have L9_y30 : Hid (EM5 y30 y26.heap.size y27.heap.size A9 ys9) := Lib.hid (EM5.step L9_y29.out hb)
      have T9_y30 : Hid (BK 26 y30 gT9 (quC s n (.slice A9 ys9.length c9))) := Lib.hid (T9_y29.out.step hb)
      clear B_y29 Q_y29 O_y29 R_y29 W_y29 L7_y29 T7_y29 L9_y29 T9_y29
      clear hHeld hb
      go_wp2_with fail
      refine hK.out _ _ ⟨T7_y30.out, T9_y30.out⟩ (fun hHeld => ?_)
      clear hK K
      try simp only [Act.put, List.setIfInBounds_toArray, List.set_cons_zero, List.set_cons_succ]
      refine wpAnyH_take (i := 8) (v := (.bool true)) (get_ops _ _ _ rfl) (by kernel_rfl) (by kernel_rfl) (by kernel_rfl) (fun _ _ _ h => h) (Or.inl ⟨by rfl, fun wS hSw => by (try dsimp only at hSw); go_simp⟩) hHeld ?_
      try simp only [Act.put, List.setIfInBounds_toArray, List.set_cons_zero, List.set_cons_succ]
      refine wpAnyH_ready (rs := [9]) (by kernel_rfl) (by simp) ?_
      refine (AllReadyH.cons (get_ops _ _ _ rfl) (fun K hK => ?_) AllReadyH.nil)
      refine S2.wp_store_all 26 _ _ rfl rfl gz (by go_simp) (quC s n (.slice A9 ys9.length c9)) (by first | rfl | go_simp) 26 _ R_y30.out quSize rfl (quC_one _ rfl) ?_
      intro y31 hM hP
      have R_y31 : Hid (BK 26 y31 gz (quC s n (.slice A9 ys9.length c9))) := Lib.hid (hM)
      have B_y31 : Hid (Below w.heap.size w y31) := Lib.hid (hP.below B_y30.out (by have := HG.out; omega))
      have Q_y31 : Hid (BK 26 y31 gq (quC s n (.slice A l.length c))) := Lib.hid (hP.other Q_y30.out (by have := HG.out; omega))
      have O_y31 : Hid (BK 36 y31 gm (oqC kd now nn m ma mc x xa xc)) := Lib.hid (hP.other O_y30.out (by have := HG.out; omega))
      have W_y31 : Hid (w1.heap.size ≤ y31.heap.size) := Lib.hid (by have h9 := hP.size; have h8 := W_y30.out; omega)
      have L7_y31 : Hid (EM5 y31 w1.heap.size y25.heap.size A7 ys7) := Lib.hid (EM5.put2 L7_y30.out hP HB7.out)
      have T7_y31 : Hid (BK 26 y31 gT7 (quC s n (.slice A7 ys7.length c7))) := Lib.hid (hP.other T7_y30.out (by have := HGT7.out; omega))
      have L9_y31 : Hid (EM5 y31 y26.heap.size y27.heap.size A9 ys9) := Lib.hid (EM5.put2 L9_y30.out hP HB9.out)
      have T9_y31 : Hid (BK 26 y31 gT9 (quC s n (.slice A9 ys9.length c9))) := Lib.hid (hP.other T9_y30.out (by have := HGT9.out; omega))
      clear B_y30 Q_y30 O_y30 R_y30 W_y30 L7_y30 T7_y30 L9_y30 T9_y30
      clear hM hP hHeld
      refine hK.out _ _ ⟨T7_y31.out, T9_y31.out⟩ (fun hHeld => ?_)
      clear hK K
      try simp only [Act.put, List.setIfInBounds_toArray, List.set_cons_zero, List.set_cons_succ]
      refine wpAnyH_take (i := 10) (v := (.slice none 0 0)) (get_ops _ _ _ rfl) (by kernel_rfl) (by kernel_rfl) (by kernel_rfl) (fun _ _ _ h => h) (Or.inl ⟨by rfl, fun wS hSw => by (try dsimp only at hSw); go_simp⟩) hHeld ?_
      try simp only [Act.put, List.setIfInBounds_toArray, List.set_cons_zero, List.set_cons_succ]
      refine wpAnyH_take (i := 11) (v := (.bool true)) (get_ops _ _ _ rfl) (by kernel_rfl) (by kernel_rfl) (by kernel_rfl) (fun _ _ _ h => h) (Or.inl ⟨by rfl, fun wS hSw => by (try dsimp only at hSw); go_simp⟩) hHeld ?_
      try simp only [Act.put, List.setIfInBounds_toArray, List.set_cons_zero, List.set_cons_succ]
      refine wpAnyH_done (by kernel_rfl) ?_ _
      go_wp2_with fail
      exact bodyPost_ret (v := .tuple #[.agg (quC s n (.slice A9 ys9.length c9)).toArray, (.slice none 0 0), .bool true]) (res_ctt rfl _ _ gz 26 (quC s n (.slice A9 ys9.length c9)) _ _ _ rfl rfl rfl R_y31.out Tryd.underlying26 rfl quSize) rfl ⟨n, A9, c9, ys9, (.slice none 0 0), [], rfl, by rw [HY9.out]; exact HVAL.out, HLE7.out.2, by rw [HY9.out]; exact ezY_ins HEZ.out HXZ.out, HC9.out, (Or.inl (L9_y31.out.en.weak HWL9.out)), (Or.inl ⟨rfl, rfl⟩), B_y31.out⟩
    · simp only [if_neg p0] at hpu hpr
      have HQ7 := Lib.hid hpu
      have HR9 := Lib.hid hpr
      clear hpu hpr hva
      have q1 : (pk == 0) = false := by simpa using p0
      have q2 : (pk != 0) = true := by simpa using p0
      clear p0
      go_wp2_with first
        | (refine wpList_load_v (by rfl) 26 (.tmp 2) rfl ⟨gq, 0, none⟩ rfl (.agg (quC s n (.slice A l.length c)).toArray) (load_qu Q_w1.out) ?_)
        | (refine wpList_load_v (by rfl) 34 (.tmp 114) rfl ⟨gm, 12, none⟩ rfl (.agg (enX x xa xc).toArray) (load_oqe3 O_w1.out) ?_)
      have HWZ7 : Hid (w1.heap.size ≤ w1.heap.size) := Lib.hid W_w1.out
      go_wp2_with fail
      refine (HQ7.out w1 (HO.out.step B_w1.out) (HS.out.step B_w1.out) (GL.step HXP.out B_w1.out)).mono ?_
      rintro e y30 ⟨w7v, ys7, rfl, hys, hL, hb⟩
      have B_y30 : Hid (Below w.heap.size w y30) := Lib.hid (stepB B_w1.out hb)
      have Q_y30 : Hid (BK 26 y30 gq (quC s n (.slice A l.length c))) := Lib.hid (Q_w1.out.step hb)
      have O_y30 : Hid (BK 36 y30 gm (oqC kd now nn m ma mc x xa xc)) := Lib.hid (O_w1.out.step hb)
      have R_y30 : Hid (BK 26 y30 gz zeroQ) := Lib.hid (R_w1.out.step hb)
      have W_y30 : Hid (w1.heap.size ≤ y30.heap.size) := Lib.hid (Nat.le_trans W_w1.out hb.size)
      clear B_w1 Q_w1 O_w1 R_w1 W_w1
      obtain ⟨A7, c7, rfl, hc7, hen7⟩ := LN.of gE_len hL
      have HY7 := Lib.hid hys
      have HC7 := Lib.hid hc7
      have HB7 : Hid (gz < w1.heap.size) := Lib.hid (Nat.lt_of_lt_of_le HRW.out HWZ7.out)
      have HWL7 : Hid (w.heap.size ≤ w1.heap.size) := Lib.hid (Nat.le_trans HW1.out HWZ7.out)
      have HWT7 : Hid (w1.heap.size ≤ y30.heap.size) := Lib.hid W_y30.out
      have L7_y30 : Hid (EM5 y30 w1.heap.size y30.heap.size A7 ys7) := Lib.hid (EM5.of hen7)
      clear hL hys hc7 hen7
      clear hb
      go_upto_region 16 with first
        | (refine S2.wpList_store_all (by rfl) 26 (.tmp 17) (.tmp 117) rfl rfl (y30.heap.size) rfl (quC Sp.zero 0 (.slice A7 ys7.length c7)) rfl 26 _ (BK.new y30 _ _) quSize rfl (ones rfl) ?_; intro y31 hM hP; have hb : Below y30.heap.size y30 y31 := hP.below (S2.below_new y30 _) (Nat.le_refl _); have B_y31 : Hid (Below w.heap.size w y31) := Lib.hid (stepB B_y30.out hb); have Q_y31 : Hid (BK 26 y31 gq (quC s n (.slice A l.length c))) := Lib.hid (Q_y30.out.step hb); have O_y31 : Hid (BK 36 y31 gm (oqC kd now nn m ma mc x xa xc)) := Lib.hid (O_y30.out.step hb); have R_y31 : Hid (BK 26 y31 gz zeroQ) := Lib.hid (R_y30.out.step hb); have W_y31 : Hid (w1.heap.size ≤ y31.heap.size) := Lib.hid (Nat.le_trans W_y30.out hb.size); have L7_y31 : Hid (EM5 y31 w1.heap.size y30.heap.size A7 ys7) := Lib.hid (EM5.step L7_y30.out hb); have T7_y31 : Hid (BK 26 y31 (y30.heap.size) (quC Sp.zero 0 (.slice A7 ys7.length c7))) := Lib.hid hM; clear hM hP hb B_y30 Q_y30 O_y30 R_y30 W_y30 L7_y30)
      obtain ⟨gT7, hgT7⟩ : ∃ b, b = y30.heap.size := ⟨_, rfl⟩
      have HGT7 : Hid (gz < gT7) := Lib.hid (by rw [hgT7]; have h1 := HWT7.out; have h2 := HRW.out; omega)
      rw [← hgT7] at T7_y31
      try rw [← hgT7]
      clear hgT7
      go_wp2_with first
        | (refine wpList_load_v (by rfl) 26 (.tmp 2) rfl ⟨gq, 0, none⟩ rfl (.agg (quC s n (.slice A l.length c)).toArray) (load_qu Q_y31.out) ?_)
        | (refine wpList_load_v (by rfl) 34 (.tmp 121) rfl ⟨gm, 12, none⟩ rfl (.agg (enX x xa xc).toArray) (load_oqe3 O_y31.out) ?_)
      have HWZ9 : Hid (w1.heap.size ≤ y31.heap.size) := Lib.hid W_y31.out
      go_wp2_with fail
      refine (HR9.out y31 (HS.out.step B_y31.out) (GL.step HXP.out B_y31.out)).mono ?_
      rintro e y32 ⟨w9v, ys9, rfl, hys, hL, hb⟩
      have B_y32 : Hid (Below w.heap.size w y32) := Lib.hid (stepB B_y31.out hb)
      have Q_y32 : Hid (BK 26 y32 gq (quC s n (.slice A l.length c))) := Lib.hid (Q_y31.out.step hb)
      have O_y32 : Hid (BK 36 y32 gm (oqC kd now nn m ma mc x xa xc)) := Lib.hid (O_y31.out.step hb)
      have R_y32 : Hid (BK 26 y32 gz zeroQ) := Lib.hid (R_y31.out.step hb)
      have W_y32 : Hid (w1.heap.size ≤ y32.heap.size) := Lib.hid (Nat.le_trans W_y31.out hb.size)
      have L7_y32 : Hid (EM5 y32 w1.heap.size y30.heap.size A7 ys7) := Lib.hid (EM5.step L7_y31.out hb)
      have T7_y32 : Hid (BK 26 y32 gT7 (quC Sp.zero 0 (.slice A7 ys7.length c7))) := Lib.hid (T7_y31.out.step hb)
      clear B_y31 Q_y31 O_y31 R_y31 W_y31 L7_y31 T7_y31
      obtain ⟨A9, c9, rfl, hc9, hen9⟩ := LN.of gE_len hL
      have HY9 := Lib.hid hys
      have HC9 := Lib.hid hc9
      have HB9 : Hid (gz < y31.heap.size) := Lib.hid (Nat.lt_of_lt_of_le HRW.out HWZ9.out)
      have HWL9 : Hid (w.heap.size ≤ y31.heap.size) := Lib.hid (Nat.le_trans HW1.out HWZ9.out)
      have HWT9 : Hid (w1.heap.size ≤ y32.heap.size) := Lib.hid W_y32.out
      have L9_y32 : Hid (EM5 y32 y31.heap.size y32.heap.size A9 ys9) := Lib.hid (EM5.of hen9)
      clear hL hys hc9 hen9
      clear hb
      go_upto_region 17 with first
        | (refine S2.wpList_store_all (by rfl) 26 (.tmp 19) (.tmp 124) rfl rfl (y32.heap.size) rfl (quC Sp.zero 0 (.slice A9 ys9.length c9)) rfl 26 _ (BK.new y32 _ _) quSize rfl (ones rfl) ?_; intro y33 hM hP; have hb : Below y32.heap.size y32 y33 := hP.below (S2.below_new y32 _) (Nat.le_refl _); have B_y33 : Hid (Below w.heap.size w y33) := Lib.hid (stepB B_y32.out hb); have Q_y33 : Hid (BK 26 y33 gq (quC s n (.slice A l.length c))) := Lib.hid (Q_y32.out.step hb); have O_y33 : Hid (BK 36 y33 gm (oqC kd now nn m ma mc x xa xc)) := Lib.hid (O_y32.out.step hb); have R_y33 : Hid (BK 26 y33 gz zeroQ) := Lib.hid (R_y32.out.step hb); have W_y33 : Hid (w1.heap.size ≤ y33.heap.size) := Lib.hid (Nat.le_trans W_y32.out hb.size); have L7_y33 : Hid (EM5 y33 w1.heap.size y30.heap.size A7 ys7) := Lib.hid (EM5.step L7_y32.out hb); have T7_y33 : Hid (BK 26 y33 gT7 (quC Sp.zero 0 (.slice A7 ys7.length c7))) := Lib.hid (T7_y32.out.step hb); have L9_y33 : Hid (EM5 y33 y31.heap.size y32.heap.size A9 ys9) := Lib.hid (EM5.step L9_y32.out hb); have T9_y33 : Hid (BK 26 y33 (y32.heap.size) (quC Sp.zero 0 (.slice A9 ys9.length c9))) := Lib.hid hM; clear hM hP hb B_y32 Q_y32 O_y32 R_y32 W_y32 L7_y32 T7_y32 L9_y32)
      obtain ⟨gT9, hgT9⟩ : ∃ b, b = y32.heap.size := ⟨_, rfl⟩
      have HGT9 : Hid (gz < gT9) := Lib.hid (by rw [hgT9]; have h1 := HWT9.out; have h2 := HRW.out; omega)
      rw [← hgT9] at T9_y33
      try rw [← hgT9]
      clear hgT9
      go_upto_region 18 with fail
      have q3 : (pk == pk) = true := by simp
      have e7 := List.map_eq_nil_iff.1 HY7.out
      subst e7
      clear L7_y33
      obtain ⟨y34, hy34⟩ : ∃ y34, y34 = World.drew y33 := ⟨_, rfl⟩
      have hbD : Below y33.heap.size y33 y34 := by rw [hy34]; exact (Below.refl _ _).drew
      have B_y34 : Hid (Below w.heap.size w y34) := Lib.hid (stepB B_y33.out hbD)
      have Q_y34 : Hid (BK 26 y34 gq (quC s n (.slice A l.length c))) := Lib.hid (Q_y33.out.step hbD)
      have O_y34 : Hid (BK 36 y34 gm (oqC kd now nn m ma mc x xa xc)) := Lib.hid (O_y33.out.step hbD)
      have R_y34 : Hid (BK 26 y34 gz zeroQ) := Lib.hid (R_y33.out.step hbD)
      have W_y34 : Hid (w1.heap.size ≤ y34.heap.size) := Lib.hid (Nat.le_trans W_y33.out hbD.size)
      have T7_y34 : Hid (BK 26 y34 gT7 (quC Sp.zero 0 (.slice A7 ([] : List EE).length c7))) := Lib.hid (T7_y33.out.step hbD)
      have L9_y34 : Hid (EM5 y34 y31.heap.size y32.heap.size A9 ys9) := Lib.hid (EM5.step L9_y33.out hbD)
      have T9_y34 : Hid (BK 26 y34 gT9 (quC Sp.zero 0 (.slice A9 ys9.length c9))) := Lib.hid (T9_y33.out.step hbD)
      clear B_y33 Q_y33 O_y33 R_y33 W_y33 T7_y33 L9_y33 T9_y33
      have hbd : (fun w' => BK 26 w' gT7 (quC Sp.zero 0 (.slice A7 ([] : List EE).length c7)) ∧ BK 26 w' gq (quC s n (.slice A l.length c))) (World.drew y33) := by rw [← hy34]; exact ⟨T7_y34.out, Q_y34.out⟩
      have hSD : (fun w' => BK 26 w' gT7 (quC Sp.zero 0 (.slice A7 ([] : List EE).length c7)) ∧ BK 26 w' gq (quC s n (.slice A l.length c))) y34 := ⟨T7_y34.out, Q_y34.out⟩
      have HWD := Lib.hid hy34
      clear hy34 hbD
      refine wp_region_held_drew (S := fun w' => BK 26 w' gT7 (quC Sp.zero 0 (.slice A7 ([] : List EE).length c7)) ∧ BK 26 w' gq (quC s n (.slice A l.length c))) (by kernel_rfl) hbd (fun hHeld => ?_)
      rw [← HWD.out]
      clear hHeld
      have hHeld := hSD
      clear hSD hbd HWD
      refine wpAnyH_take (i := 0) (v := (.agg (quC s n (.slice A l.length c)).toArray)) (get_ops _ _ _ rfl) (by kernel_rfl) (by kernel_rfl) (by kernel_rfl) (fun _ _ _ h => h) (Or.inl ⟨by rfl, fun wS hSw => by (try dsimp only at hSw); exact exec_load 26 _ rfl ⟨gq, 0, none⟩ (by go_simp) _ (load_qu hSw.2)⟩) hHeld ?_
      try simp only [Act.put, List.setIfInBounds_toArray, List.set_cons_zero, List.set_cons_succ]
      refine wpAnyH_take (i := 1) (v := (.int .i64 pk)) (get_ops _ _ _ rfl) (by kernel_rfl) (by kernel_rfl) (by kernel_rfl) (fun _ _ _ h => h) (Or.inl ⟨by rfl, fun wS hSw => by (try dsimp only at hSw); go_simp⟩) hHeld ?_
      try simp only [Act.put, List.setIfInBounds_toArray, List.set_cons_zero, List.set_cons_succ]
      refine wpAnyH_take (i := 2) (v := (.int .i64 pk)) (get_ops _ _ _ rfl) (by kernel_rfl) (by kernel_rfl) (by kernel_rfl) (fun _ _ _ h => h) (Or.inl ⟨by rfl, fun wS hSw => by (try dsimp only at hSw); go_simp⟩) hHeld ?_
      try simp only [Act.put, List.setIfInBounds_toArray, List.set_cons_zero, List.set_cons_succ]
      refine wpAnyH_take (i := 3) (v := (.bool true)) (get_ops _ _ _ rfl) (by kernel_rfl) (by kernel_rfl) (by kernel_rfl) (fun _ _ _ h => h) (Or.inl ⟨by rfl, fun wS hSw => by (try dsimp only at hSw); go_simp⟩) hHeld ?_
      try simp only [Act.put, List.setIfInBounds_toArray, List.set_cons_zero, List.set_cons_succ]
      refine wpAnyH_take (i := 4) (v := (.bool true)) (get_ops _ _ _ rfl) (by kernel_rfl) (by kernel_rfl) (by kernel_rfl) (fun _ _ _ h => h) (Or.inl ⟨by rfl, fun wS hSw => by (try dsimp only at hSw); go_simp⟩) hHeld ?_
      try simp only [Act.put, List.setIfInBounds_toArray, List.set_cons_zero, List.set_cons_succ]
      refine wpAnyH_take (i := 5) (v := (.agg (quC Sp.zero 0 (.slice A7 ([] : List EE).length c7)).toArray)) (get_ops _ _ _ rfl) (by kernel_rfl) (by kernel_rfl) (by kernel_rfl) (fun _ _ _ h => h) (Or.inl ⟨by rfl, fun wS hSw => by (try dsimp only at hSw); exact exec_load 26 _ rfl ⟨gT7, 0, none⟩ (by go_simp) _ (load_qu hSw.1)⟩) hHeld ?_
      try simp only [Act.put, List.setIfInBounds_toArray, List.set_cons_zero, List.set_cons_succ]
      refine wpAnyH_take (i := 6) (v := (.agg #[.string ⟨#[]⟩, .int .i64 0, .int .i64 0, .int .i64 0, .string ⟨#[]⟩, .int .i64 0, .slice none 0 0])) (get_ops _ _ _ rfl) (by kernel_rfl) (by kernel_rfl) (by kernel_rfl) (fun _ _ _ h => h) (Or.inl ⟨by rfl, fun wS hSw => by (try dsimp only at hSw); first | (clear hSw; go_simp; done) | (clear hSw; go_simp; rfl) | rfl⟩) hHeld ?_
      try simp only [Act.put, List.setIfInBounds_toArray, List.set_cons_zero, List.set_cons_succ]
      refine wpAnyH_ready (rs := [7]) (by kernel_rfl) (by simp) ?_
      refine (AllReadyH.cons (get_ops _ _ _ rfl) (fun K hK => ?_) AllReadyH.nil)
      go_simp
      refine (HSAM.out Sp.zero 0 A7 c7 ([] : List EE) none 0 ([] : List EE) y34 (LI.nil _ _ _) (LI.nil _ _ _) rfl (by decide) (fun y hy => by cases hy)).mono ?_
      rintro e y35 ⟨rfl, hb⟩
      have B_y35 : Hid (Below w.heap.size w y35) := Lib.hid (stepB B_y34.out hb)
      have Q_y35 : Hid (BK 26 y35 gq (quC s n (.slice A l.length c))) := Lib.hid (Q_y34.out.step hb)
      have O_y35 : Hid (BK 36 y35 gm (oqC kd now nn m ma mc x xa xc)) := Lib.hid (O_y34.out.step hb)
      have R_y35 : Hid (BK 26 y35 gz zeroQ) := Lib.hid (R_y34.out.step hb)
      have W_y35 : Hid (w1.heap.size ≤ y35.heap.size) := Lib.hid (Nat.le_trans W_y34.out hb.size)
      have T7_y35 : Hid (BK 26 y35 gT7 (quC Sp.zero 0 (.slice A7 ([] : List EE).length c7))) := Lib.hid (T7_y34.out.step hb)
      have L9_y35 : Hid (EM5 y35 y31.heap.size y32.heap.size A9 ys9) := Lib.hid (EM5.step L9_y34.out hb)
      have T9_y35 : Hid (BK 26 y35 gT9 (quC Sp.zero 0 (.slice A9 ys9.length c9))) := Lib.hid (T9_y34.out.step hb)
      clear B_y34 Q_y34 O_y34 R_y34 W_y34 T7_y34 L9_y34 T9_y34
      clear hHeld hb
      go_wp2_with fail
      refine hK.out _ _ ⟨T7_y35.out, Q_y35.out⟩ (fun hHeld => ?_)
      clear hK K
      try simp only [Act.put, List.setIfInBounds_toArray, List.set_cons_zero, List.set_cons_succ]
      refine wpAnyH_take (i := 8) (v := (.bool true)) (get_ops _ _ _ rfl) (by kernel_rfl) (by kernel_rfl) (by kernel_rfl) (fun _ _ _ h => h) (Or.inl ⟨by rfl, fun wS hSw => by (try dsimp only at hSw); go_simp⟩) hHeld ?_
      try simp only [Act.put, List.setIfInBounds_toArray, List.set_cons_zero, List.set_cons_succ]
      refine wpAnyH_ready (rs := [9]) (by kernel_rfl) (by simp) ?_
      refine (AllReadyH.cons (get_ops _ _ _ rfl) (fun K hK => ?_) AllReadyH.nil)
      refine S2.wp_store_all 26 _ _ rfl rfl gz (by go_simp) (quC s n (.slice A l.length c)) (by first | rfl | go_simp) 26 _ R_y35.out quSize rfl (quC_one _ rfl) ?_
      intro y36 hM hP
      have R_y36 : Hid (BK 26 y36 gz (quC s n (.slice A l.length c))) := Lib.hid (hM)
      have B_y36 : Hid (Below w.heap.size w y36) := Lib.hid (hP.below B_y35.out (by have := HG.out; omega))
      have Q_y36 : Hid (BK 26 y36 gq (quC s n (.slice A l.length c))) := Lib.hid (hP.other Q_y35.out (by have := HG.out; omega))
      have O_y36 : Hid (BK 36 y36 gm (oqC kd now nn m ma mc x xa xc)) := Lib.hid (hP.other O_y35.out (by have := HG.out; omega))
      have W_y36 : Hid (w1.heap.size ≤ y36.heap.size) := Lib.hid (by have h9 := hP.size; have h8 := W_y35.out; omega)
      have T7_y36 : Hid (BK 26 y36 gT7 (quC Sp.zero 0 (.slice A7 ([] : List EE).length c7))) := Lib.hid (hP.other T7_y35.out (by have := HGT7.out; omega))
      have L9_y36 : Hid (EM5 y36 y31.heap.size y32.heap.size A9 ys9) := Lib.hid (EM5.put2 L9_y35.out hP HB9.out)
      have T9_y36 : Hid (BK 26 y36 gT9 (quC Sp.zero 0 (.slice A9 ys9.length c9))) := Lib.hid (hP.other T9_y35.out (by have := HGT9.out; omega))
      clear B_y35 Q_y35 O_y35 R_y35 W_y35 T7_y35 L9_y35 T9_y35
      clear hM hP hHeld
      refine hK.out _ _ ⟨T7_y36.out, Q_y36.out⟩ (fun hHeld => ?_)
      clear hK K
      try simp only [Act.put, List.setIfInBounds_toArray, List.set_cons_zero, List.set_cons_succ]
      refine wpAnyH_take (i := 10) (v := (.slice none 0 0)) (get_ops _ _ _ rfl) (by kernel_rfl) (by kernel_rfl) (by kernel_rfl) (fun _ _ _ h => h) (Or.inl ⟨by rfl, fun wS hSw => by (try dsimp only at hSw); go_simp⟩) hHeld ?_
      try simp only [Act.put, List.setIfInBounds_toArray, List.set_cons_zero, List.set_cons_succ]
      refine wpAnyH_take (i := 11) (v := (.bool true)) (get_ops _ _ _ rfl) (by kernel_rfl) (by kernel_rfl) (by kernel_rfl) (fun _ _ _ h => h) (Or.inl ⟨by rfl, fun wS hSw => by (try dsimp only at hSw); go_simp⟩) hHeld ?_
      try simp only [Act.put, List.setIfInBounds_toArray, List.set_cons_zero, List.set_cons_succ]
      refine wpAnyH_done (by kernel_rfl) ?_ _
      go_wp2_with fail
      exact bodyPost_ret (v := .tuple #[.agg (quC s n (.slice A l.length c)).toArray, (.slice none 0 0), .bool true]) (res_ctt rfl _ _ gz 26 (quC s n (.slice A l.length c)) _ _ _ rfl rfl rfl R_y36.out Tryd.underlying26 rfl quSize) rfl ⟨n, A, c, l, (.slice none 0 0), [], rfl, HV.out, by omega, HEZ.out, HCL.out, (Or.inr ⟨rfl, rfl, rfl⟩), (Or.inl ⟨rfl, rfl⟩), B_y36.out⟩
  have e3 : (kd == 2) = false := by simpa using k2
  clear k2
  go_upto_region 20 with fail
  clear d0 e1 e2 e3
  have htt := (specR_parts HVP.out.1).2.2.1
  have har : ∀ y ∈ l, 0 ≤ y.x.r ∧ y.x.r ≤ 1099511627776 := fun y hy => (entR_parts (HVP.out.2.2.2.1 _ (List.mem_map_of_mem hy))).2.1
  have hx7 := fun w1 h1 => qExpire_any s n A c l now w1 h1 (by have := HL.out; omega) HPP.out htt har
  have hx9 := fun w1 h1 => rExpire_any s n A c l now w1 h1 (by have := HL.out; omega) HPP.out htt har
  have HVX : Hid (validR s n (leftQ s now (l.map EE.x)) = 0 ∧ ∀ y ∈ leftQ s now (l.map EE.x), EzY y) := Lib.hid ⟨valid_filter _ HV.out, fun y hy => HEZ.out y (List.mem_filter.1 hy).1⟩
  have HLG : Hid ((goneQ s now (l.map EE.x)).length ≤ 200 ∧ (leftQ s now (l.map EE.x)).length ≤ l.length) := Lib.hid ⟨Nat.le_trans (List.length_filter_le _ _) HLM.out, Nat.le_trans (List.length_filter_le _ _) (by rw [List.length_map]; exact Nat.le_refl _)⟩
  have HGP : Hid (∀ y ∈ goneQ s now (l.map EE.x), y.m.props.length ≤ 4398046511104) := Lib.hid (fun y hy => entP (HVP.out.2.2.2.1 y (List.mem_filter.1 hy).1))
  generalize goneQ s now (l.map EE.x) = G at hx7 hx9 HLG HGP
  generalize leftQ s now (l.map EE.x) = LF at hx7 hx9 HVX HLG
  unfold RetX quV at hx7 hx9
  have HX7 := Lib.hid hx7
  have HX9 := Lib.hid hx9
  clear hx7 hx9 htt har
  have dn7 := O_w1.out.cell 1 rfl
  go_wp2_with first
    | (refine wpList_load_v (by rfl) 26 (.tmp 2) rfl ⟨gq, 0, none⟩ rfl (.agg (quC s n (.slice A l.length c)).toArray) (load_qu Q_w1.out) ?_)
  clear dn7
  have HWZ7 : Hid (w1.heap.size ≤ w1.heap.size) := Lib.hid W_w1.out
  go_wp2_with fail
  refine (HX7.out w1 (HS.out.step B_w1.out)).mono ?_
  rintro e y35 ⟨A7f, c7f, fs7, A7, c7, ys7, rfl, hfs, hes, hx1, hx2, hx3, hx4, hb⟩
  have B_y35 : Hid (Below w.heap.size w y35) := Lib.hid (stepB B_w1.out hb)
  have Q_y35 : Hid (BK 26 y35 gq (quC s n (.slice A l.length c))) := Lib.hid (Q_w1.out.step hb)
  have O_y35 : Hid (BK 36 y35 gm (oqC kd now nn m ma mc x xa xc)) := Lib.hid (O_w1.out.step hb)
  have R_y35 : Hid (BK 26 y35 gz zeroQ) := Lib.hid (R_w1.out.step hb)
  have W_y35 : Hid (w1.heap.size ≤ y35.heap.size) := Lib.hid (Nat.le_trans W_w1.out hb.size)
  clear B_w1 Q_w1 O_w1 R_w1 W_w1
  have HF7 := Lib.hid hfs
  have HY7 := Lib.hid hes
  have HC7 := Lib.hid hx2
  have HB7 : Hid (gz < w1.heap.size) := Lib.hid (Nat.lt_of_lt_of_le HRW.out HWZ7.out)
  have HWL7 : Hid (w.heap.size ≤ w1.heap.size) := Lib.hid (Nat.le_trans HW1.out HWZ7.out)
  have HWT7 : Hid (w1.heap.size ≤ y35.heap.size) := Lib.hid W_y35.out
  have G7_y35 : Hid (EM5 y35 w1.heap.size y35.heap.size A7f fs7) := Lib.hid (EM5.of hx3)
  have L7_y35 : Hid (EM5 y35 w1.heap.size y35.heap.size A7 ys7) := Lib.hid (EM5.of hx4)
  clear hfs hes hx1 hx2 hx3 hx4
  clear hb
  go_upto_region 21 with first
    | (refine S2.wpList_store_all (by rfl) 26 (.tmp 22) (.tmp 152) rfl rfl (y35.heap.size) rfl (quC s n (.slice A7 ys7.length c7)) rfl 26 _ (BK.new y35 _ _) quSize rfl (ones rfl) ?_; intro y36 hM hP; have hb : Below y35.heap.size y35 y36 := hP.below (S2.below_new y35 _) (Nat.le_refl _); have B_y36 : Hid (Below w.heap.size w y36) := Lib.hid (stepB B_y35.out hb); have Q_y36 : Hid (BK 26 y36 gq (quC s n (.slice A l.length c))) := Lib.hid (Q_y35.out.step hb); have O_y36 : Hid (BK 36 y36 gm (oqC kd now nn m ma mc x xa xc)) := Lib.hid (O_y35.out.step hb); have R_y36 : Hid (BK 26 y36 gz zeroQ) := Lib.hid (R_y35.out.step hb); have W_y36 : Hid (w1.heap.size ≤ y36.heap.size) := Lib.hid (Nat.le_trans W_y35.out hb.size); have G7_y36 : Hid (EM5 y36 w1.heap.size y35.heap.size A7f fs7) := Lib.hid (EM5.step G7_y35.out hb); have L7_y36 : Hid (EM5 y36 w1.heap.size y35.heap.size A7 ys7) := Lib.hid (EM5.step L7_y35.out hb); have T7_y36 : Hid (BK 26 y36 (y35.heap.size) (quC s n (.slice A7 ys7.length c7))) := Lib.hid hM; clear hM hP hb B_y35 Q_y35 O_y35 R_y35 W_y35 G7_y35 L7_y35)
  obtain ⟨gT7, hgT7⟩ : ∃ b, b = y35.heap.size := ⟨_, rfl⟩
  have HGT7 : Hid (gz < gT7) := Lib.hid (by rw [hgT7]; have h1 := HWT7.out; have h2 := HRW.out; omega)
  rw [← hgT7] at T7_y36
  try rw [← hgT7]
  clear hgT7
  have dn9 := O_y36.out.cell 1 rfl
  go_wp2_with first
    | (refine wpList_load_v (by rfl) 26 (.tmp 2) rfl ⟨gq, 0, none⟩ rfl (.agg (quC s n (.slice A l.length c)).toArray) (load_qu Q_y36.out) ?_)
  clear dn9
  have HWZ9 : Hid (w1.heap.size ≤ y36.heap.size) := Lib.hid W_y36.out
  go_wp2_with fail
  refine (HX9.out y36 (HS.out.step B_y36.out)).mono ?_
  rintro e y37 ⟨A9f, c9f, fs9, A9, c9, ys9, rfl, hfs, hes, hx1, hx2, hx3, hx4, hb⟩
  have B_y37 : Hid (Below w.heap.size w y37) := Lib.hid (stepB B_y36.out hb)
  have Q_y37 : Hid (BK 26 y37 gq (quC s n (.slice A l.length c))) := Lib.hid (Q_y36.out.step hb)
  have O_y37 : Hid (BK 36 y37 gm (oqC kd now nn m ma mc x xa xc)) := Lib.hid (O_y36.out.step hb)
  have R_y37 : Hid (BK 26 y37 gz zeroQ) := Lib.hid (R_y36.out.step hb)
  have W_y37 : Hid (w1.heap.size ≤ y37.heap.size) := Lib.hid (Nat.le_trans W_y36.out hb.size)
  have G7_y37 : Hid (EM5 y37 w1.heap.size y35.heap.size A7f fs7) := Lib.hid (EM5.step G7_y36.out hb)
  have L7_y37 : Hid (EM5 y37 w1.heap.size y35.heap.size A7 ys7) := Lib.hid (EM5.step L7_y36.out hb)
  have T7_y37 : Hid (BK 26 y37 gT7 (quC s n (.slice A7 ys7.length c7))) := Lib.hid (T7_y36.out.step hb)
  clear B_y36 Q_y36 O_y36 R_y36 W_y36 G7_y36 L7_y36 T7_y36
  have HF9 := Lib.hid hfs
  have HY9 := Lib.hid hes
  have HC9 := Lib.hid hx2
  have HB9 : Hid (gz < y36.heap.size) := Lib.hid (Nat.lt_of_lt_of_le HRW.out HWZ9.out)
  have HWL9 : Hid (w.heap.size ≤ y36.heap.size) := Lib.hid (Nat.le_trans HW1.out HWZ9.out)
  have HWT9 : Hid (w1.heap.size ≤ y37.heap.size) := Lib.hid W_y37.out
  have G9_y37 : Hid (EM5 y37 y36.heap.size y37.heap.size A9f fs9) := Lib.hid (EM5.of hx3)
  have L9_y37 : Hid (EM5 y37 y36.heap.size y37.heap.size A9 ys9) := Lib.hid (EM5.of hx4)
  clear hfs hes hx1 hx2 hx3 hx4
  clear hb
  go_upto_region 22 with first
    | (refine S2.wpList_store_all (by rfl) 26 (.tmp 24) (.tmp 159) rfl rfl (y37.heap.size) rfl (quC s n (.slice A9 ys9.length c9)) rfl 26 _ (BK.new y37 _ _) quSize rfl (ones rfl) ?_; intro y38 hM hP; have hb : Below y37.heap.size y37 y38 := hP.below (S2.below_new y37 _) (Nat.le_refl _); have B_y38 : Hid (Below w.heap.size w y38) := Lib.hid (stepB B_y37.out hb); have Q_y38 : Hid (BK 26 y38 gq (quC s n (.slice A l.length c))) := Lib.hid (Q_y37.out.step hb); have O_y38 : Hid (BK 36 y38 gm (oqC kd now nn m ma mc x xa xc)) := Lib.hid (O_y37.out.step hb); have R_y38 : Hid (BK 26 y38 gz zeroQ) := Lib.hid (R_y37.out.step hb); have W_y38 : Hid (w1.heap.size ≤ y38.heap.size) := Lib.hid (Nat.le_trans W_y37.out hb.size); have G7_y38 : Hid (EM5 y38 w1.heap.size y35.heap.size A7f fs7) := Lib.hid (EM5.step G7_y37.out hb); have L7_y38 : Hid (EM5 y38 w1.heap.size y35.heap.size A7 ys7) := Lib.hid (EM5.step L7_y37.out hb); have T7_y38 : Hid (BK 26 y38 gT7 (quC s n (.slice A7 ys7.length c7))) := Lib.hid (T7_y37.out.step hb); have G9_y38 : Hid (EM5 y38 y36.heap.size y37.heap.size A9f fs9) := Lib.hid (EM5.step G9_y37.out hb); have L9_y38 : Hid (EM5 y38 y36.heap.size y37.heap.size A9 ys9) := Lib.hid (EM5.step L9_y37.out hb); have T9_y38 : Hid (BK 26 y38 (y37.heap.size) (quC s n (.slice A9 ys9.length c9))) := Lib.hid hM; clear hM hP hb B_y37 Q_y37 O_y37 R_y37 W_y37 G7_y37 L7_y37 T7_y37 G9_y37 L9_y37)
  obtain ⟨gT9, hgT9⟩ : ∃ b, b = y37.heap.size := ⟨_, rfl⟩
  have HGT9 : Hid (gz < gT9) := Lib.hid (by rw [hgT9]; have h1 := HWT9.out; have h2 := HRW.out; omega)
  rw [← hgT9] at T9_y38
  try rw [← hgT9]
  clear hgT9
  have HM79 : Hid (ys7.map EE.x = ys9.map EE.x) := Lib.hid (by rw [HY7.out, HY9.out])
  have HLE7 : Hid (ys7.length ≤ 1000 ∧ ys9.length ≤ l.length + 1) := Lib.hid (by have h1 := len_map HY7.out; have h2 := len_map HY9.out; have h3 := HL.out; have h4 := HLG.out; omega)
  have HP7 : Hid (∀ y ∈ ys7, y.x.m.props.length ≤ 4398046511104) := Lib.hid (fun y hy => entP ((validR_parts HVX.out.1).2.2.2.1 y.x (by rw [← HY7.out]; exact List.mem_map_of_mem hy)))
  have hse := fun w1 h1 h2 => rSameL_any A7f c7f fs7 A9f c9f fs9 w1 h1 h2 (by have h1 := len_map HF7.out; have h4 := HLG.out; omega) (fun y hy => HGP.out y.x (by rw [← HF7.out]; exact List.mem_map_of_mem hy))
  rw [decide_eq_true (p := fs7.map EE.x = fs9.map EE.x) (by rw [HF7.out, HF9.out])] at hse
  have HSE := Lib.hid hse
  clear hse
  obtain ⟨y39, hy39⟩ : ∃ y39, y39 = World.drew y38 := ⟨_, rfl⟩
  have hbD : Below y38.heap.size y38 y39 := by rw [hy39]; exact (Below.refl _ _).drew
  have B_y39 : Hid (Below w.heap.size w y39) := Lib.hid (stepB B_y38.out hbD)
  have Q_y39 : Hid (BK 26 y39 gq (quC s n (.slice A l.length c))) := Lib.hid (Q_y38.out.step hbD)
  have O_y39 : Hid (BK 36 y39 gm (oqC kd now nn m ma mc x xa xc)) := Lib.hid (O_y38.out.step hbD)
  have R_y39 : Hid (BK 26 y39 gz zeroQ) := Lib.hid (R_y38.out.step hbD)
  have W_y39 : Hid (w1.heap.size ≤ y39.heap.size) := Lib.hid (Nat.le_trans W_y38.out hbD.size)
  have G7_y39 : Hid (EM5 y39 w1.heap.size y35.heap.size A7f fs7) := Lib.hid (EM5.step G7_y38.out hbD)
  have L7_y39 : Hid (EM5 y39 w1.heap.size y35.heap.size A7 ys7) := Lib.hid (EM5.step L7_y38.out hbD)
  have T7_y39 : Hid (BK 26 y39 gT7 (quC s n (.slice A7 ys7.length c7))) := Lib.hid (T7_y38.out.step hbD)
  have G9_y39 : Hid (EM5 y39 y36.heap.size y37.heap.size A9f fs9) := Lib.hid (EM5.step G9_y38.out hbD)
  have L9_y39 : Hid (EM5 y39 y36.heap.size y37.heap.size A9 ys9) := Lib.hid (EM5.step L9_y38.out hbD)
  have T9_y39 : Hid (BK 26 y39 gT9 (quC s n (.slice A9 ys9.length c9))) := Lib.hid (T9_y38.out.step hbD)
  clear B_y38 Q_y38 O_y38 R_y38 W_y38 G7_y38 L7_y38 T7_y38 G9_y38 L9_y38 T9_y38
  have hbd : (fun w' => BK 26 w' gT7 (quC s n (.slice A7 ys7.length c7)) ∧ BK 26 w' gT9 (quC s n (.slice A9 ys9.length c9))) (World.drew y38) := by rw [← hy39]; exact ⟨T7_y39.out, T9_y39.out⟩
  have hSD : (fun w' => BK 26 w' gT7 (quC s n (.slice A7 ys7.length c7)) ∧ BK 26 w' gT9 (quC s n (.slice A9 ys9.length c9))) y39 := ⟨T7_y39.out, T9_y39.out⟩
  have HWD := Lib.hid hy39
  clear hy39 hbD
  refine wp_region_held_drew (S := fun w' => BK 26 w' gT7 (quC s n (.slice A7 ys7.length c7)) ∧ BK 26 w' gT9 (quC s n (.slice A9 ys9.length c9))) (by kernel_rfl) hbd (fun hHeld => ?_)
  rw [← HWD.out]
  clear hHeld
  have hHeld := hSD
  clear hSD hbd HWD
  refine wpAnyH_take (i := 0) (v := (.agg (quC s n (.slice A9 ys9.length c9)).toArray)) (get_ops _ _ _ rfl) (by kernel_rfl) (by kernel_rfl) (by kernel_rfl) (fun _ _ _ h => h) (Or.inl ⟨by rfl, fun wS hSw => by (try dsimp only at hSw); exact exec_load 26 _ rfl ⟨gT9, 0, none⟩ (by go_simp) _ (load_qu hSw.2)⟩) hHeld ?_
  try simp only [Act.put, List.setIfInBounds_toArray, List.set_cons_zero, List.set_cons_succ]
  refine wpAnyH_take (i := 1) (v := (.slice A7f fs7.length c7f)) (get_ops _ _ _ rfl) (by kernel_rfl) (by kernel_rfl) (by kernel_rfl) (fun _ _ _ h => h) (Or.inl ⟨by rfl, fun wS hSw => by (try dsimp only at hSw); go_simp⟩) hHeld ?_
  try simp only [Act.put, List.setIfInBounds_toArray, List.set_cons_zero, List.set_cons_succ]
  refine wpAnyH_take (i := 2) (v := (.slice A9f fs9.length c9f)) (get_ops _ _ _ rfl) (by kernel_rfl) (by kernel_rfl) (by kernel_rfl) (fun _ _ _ h => h) (Or.inl ⟨by rfl, fun wS hSw => by (try dsimp only at hSw); go_simp⟩) hHeld ?_
  try simp only [Act.put, List.setIfInBounds_toArray, List.set_cons_zero, List.set_cons_succ]
  refine wpAnyH_ready (rs := [3]) (by kernel_rfl) (by simp) ?_
  refine (AllReadyH.cons (get_ops _ _ _ rfl) (fun K hK => ?_) AllReadyH.nil)
  go_simp
  refine (HSE.out y39 G7_y39.out.en.1 G9_y39.out.en.1).mono ?_
  rintro e y40 ⟨rfl, hb⟩
  have B_y40 : Hid (Below w.heap.size w y40) := Lib.hid (stepB B_y39.out hb)
  have Q_y40 : Hid (BK 26 y40 gq (quC s n (.slice A l.length c))) := Lib.hid (Q_y39.out.step hb)
  have O_y40 : Hid (BK 36 y40 gm (oqC kd now nn m ma mc x xa xc)) := Lib.hid (O_y39.out.step hb)
  have R_y40 : Hid (BK 26 y40 gz zeroQ) := Lib.hid (R_y39.out.step hb)
  have W_y40 : Hid (w1.heap.size ≤ y40.heap.size) := Lib.hid (Nat.le_trans W_y39.out hb.size)
  have G7_y40 : Hid (EM5 y40 w1.heap.size y35.heap.size A7f fs7) := Lib.hid (EM5.step G7_y39.out hb)
  have L7_y40 : Hid (EM5 y40 w1.heap.size y35.heap.size A7 ys7) := Lib.hid (EM5.step L7_y39.out hb)
  have T7_y40 : Hid (BK 26 y40 gT7 (quC s n (.slice A7 ys7.length c7))) := Lib.hid (T7_y39.out.step hb)
  have G9_y40 : Hid (EM5 y40 y36.heap.size y37.heap.size A9f fs9) := Lib.hid (EM5.step G9_y39.out hb)
  have L9_y40 : Hid (EM5 y40 y36.heap.size y37.heap.size A9 ys9) := Lib.hid (EM5.step L9_y39.out hb)
  have T9_y40 : Hid (BK 26 y40 gT9 (quC s n (.slice A9 ys9.length c9))) := Lib.hid (T9_y39.out.step hb)
  clear B_y39 Q_y39 O_y39 R_y39 W_y39 G7_y39 L7_y39 T7_y39 G9_y39 L9_y39 T9_y39
  clear hHeld hb
  go_wp2_with fail
  refine hK.out _ _ ⟨T7_y40.out, T9_y40.out⟩ (fun hHeld => ?_)
  clear hK K
  try simp only [Act.put, List.setIfInBounds_toArray, List.set_cons_zero, List.set_cons_succ]
  refine wpAnyH_take (i := 4) (v := (.bool true)) (get_ops _ _ _ rfl) (by kernel_rfl) (by kernel_rfl) (by kernel_rfl) (fun _ _ _ h => h) (Or.inl ⟨by rfl, fun wS hSw => by (try dsimp only at hSw); go_simp⟩) hHeld ?_
  try simp only [Act.put, List.setIfInBounds_toArray, List.set_cons_zero, List.set_cons_succ]
  refine wpAnyH_take (i := 5) (v := (.agg (quC s n (.slice A7 ys7.length c7)).toArray)) (get_ops _ _ _ rfl) (by kernel_rfl) (by kernel_rfl) (by kernel_rfl) (fun _ _ _ h => h) (Or.inl ⟨by rfl, fun wS hSw => by (try dsimp only at hSw); exact exec_load 26 _ rfl ⟨gT7, 0, none⟩ (by go_simp) _ (load_qu hSw.1)⟩) hHeld ?_
  try simp only [Act.put, List.setIfInBounds_toArray, List.set_cons_zero, List.set_cons_succ]
  refine wpAnyH_take (i := 6) (v := (.agg (quC s n (.slice A9 ys9.length c9)).toArray)) (get_ops _ _ _ rfl) (by kernel_rfl) (by kernel_rfl) (by kernel_rfl) (fun _ _ _ h => h) (Or.inl ⟨by rfl, fun wS hSw => by (try dsimp only at hSw); exact exec_load 26 _ rfl ⟨gT9, 0, none⟩ (by go_simp) _ (load_qu hSw.2)⟩) hHeld ?_
  try simp only [Act.put, List.setIfInBounds_toArray, List.set_cons_zero, List.set_cons_succ]
  refine wpAnyH_ready (rs := [7]) (by kernel_rfl) (by simp) ?_
  refine (AllReadyH.cons (get_ops _ _ _ rfl) (fun K hK => ?_) AllReadyH.nil)
  go_simp
  refine (HSAM.out s n A7 c7 ys7 A9 c9 ys9 y40 L7_y40.out.en.1 L9_y40.out.en.1 HM79.out HLE7.out.1 HP7.out).mono ?_
  rintro e y41 ⟨rfl, hb⟩
  have B_y41 : Hid (Below w.heap.size w y41) := Lib.hid (stepB B_y40.out hb)
  have Q_y41 : Hid (BK 26 y41 gq (quC s n (.slice A l.length c))) := Lib.hid (Q_y40.out.step hb)
  have O_y41 : Hid (BK 36 y41 gm (oqC kd now nn m ma mc x xa xc)) := Lib.hid (O_y40.out.step hb)
  have R_y41 : Hid (BK 26 y41 gz zeroQ) := Lib.hid (R_y40.out.step hb)
  have W_y41 : Hid (w1.heap.size ≤ y41.heap.size) := Lib.hid (Nat.le_trans W_y40.out hb.size)
  have G7_y41 : Hid (EM5 y41 w1.heap.size y35.heap.size A7f fs7) := Lib.hid (EM5.step G7_y40.out hb)
  have L7_y41 : Hid (EM5 y41 w1.heap.size y35.heap.size A7 ys7) := Lib.hid (EM5.step L7_y40.out hb)
  have T7_y41 : Hid (BK 26 y41 gT7 (quC s n (.slice A7 ys7.length c7))) := Lib.hid (T7_y40.out.step hb)
  have G9_y41 : Hid (EM5 y41 y36.heap.size y37.heap.size A9f fs9) := Lib.hid (EM5.step G9_y40.out hb)
  have L9_y41 : Hid (EM5 y41 y36.heap.size y37.heap.size A9 ys9) := Lib.hid (EM5.step L9_y40.out hb)
  have T9_y41 : Hid (BK 26 y41 gT9 (quC s n (.slice A9 ys9.length c9))) := Lib.hid (T9_y40.out.step hb)
  clear B_y40 Q_y40 O_y40 R_y40 W_y40 G7_y40 L7_y40 T7_y40 G9_y40 L9_y40 T9_y40
  clear hHeld hb
  go_wp2_with fail
  refine hK.out _ _ ⟨T7_y41.out, T9_y41.out⟩ (fun hHeld => ?_)
  clear hK K
  try simp only [Act.put, List.setIfInBounds_toArray, List.set_cons_zero, List.set_cons_succ]
  refine wpAnyH_take (i := 8) (v := (.bool true)) (get_ops _ _ _ rfl) (by kernel_rfl) (by kernel_rfl) (by kernel_rfl) (fun _ _ _ h => h) (Or.inl ⟨by rfl, fun wS hSw => by (try dsimp only at hSw); go_simp⟩) hHeld ?_
  try simp only [Act.put, List.setIfInBounds_toArray, List.set_cons_zero, List.set_cons_succ]
  refine wpAnyH_ready (rs := [9]) (by kernel_rfl) (by simp) ?_
  refine (AllReadyH.cons (get_ops _ _ _ rfl) (fun K hK => ?_) AllReadyH.nil)
  refine S2.wp_store_all 26 _ _ rfl rfl gz (by go_simp) (quC s n (.slice A9 ys9.length c9)) (by first | rfl | go_simp) 26 _ R_y41.out quSize rfl (quC_one _ rfl) ?_
  intro y42 hM hP
  have R_y42 : Hid (BK 26 y42 gz (quC s n (.slice A9 ys9.length c9))) := Lib.hid (hM)
  have B_y42 : Hid (Below w.heap.size w y42) := Lib.hid (hP.below B_y41.out (by have := HG.out; omega))
  have Q_y42 : Hid (BK 26 y42 gq (quC s n (.slice A l.length c))) := Lib.hid (hP.other Q_y41.out (by have := HG.out; omega))
  have O_y42 : Hid (BK 36 y42 gm (oqC kd now nn m ma mc x xa xc)) := Lib.hid (hP.other O_y41.out (by have := HG.out; omega))
  have W_y42 : Hid (w1.heap.size ≤ y42.heap.size) := Lib.hid (by have h9 := hP.size; have h8 := W_y41.out; omega)
  have G7_y42 : Hid (EM5 y42 w1.heap.size y35.heap.size A7f fs7) := Lib.hid (EM5.put2 G7_y41.out hP HB7.out)
  have L7_y42 : Hid (EM5 y42 w1.heap.size y35.heap.size A7 ys7) := Lib.hid (EM5.put2 L7_y41.out hP HB7.out)
  have T7_y42 : Hid (BK 26 y42 gT7 (quC s n (.slice A7 ys7.length c7))) := Lib.hid (hP.other T7_y41.out (by have := HGT7.out; omega))
  have G9_y42 : Hid (EM5 y42 y36.heap.size y37.heap.size A9f fs9) := Lib.hid (EM5.put2 G9_y41.out hP HB9.out)
  have L9_y42 : Hid (EM5 y42 y36.heap.size y37.heap.size A9 ys9) := Lib.hid (EM5.put2 L9_y41.out hP HB9.out)
  have T9_y42 : Hid (BK 26 y42 gT9 (quC s n (.slice A9 ys9.length c9))) := Lib.hid (hP.other T9_y41.out (by have := HGT9.out; omega))
  clear B_y41 Q_y41 O_y41 R_y41 W_y41 G7_y41 L7_y41 T7_y41 G9_y41 L9_y41 T9_y41
  clear hM hP hHeld
  refine hK.out _ _ ⟨T7_y42.out, T9_y42.out⟩ (fun hHeld => ?_)
  clear hK K
  try simp only [Act.put, List.setIfInBounds_toArray, List.set_cons_zero, List.set_cons_succ]
  refine wpAnyH_take (i := 10) (v := (.slice none 0 0)) (get_ops _ _ _ rfl) (by kernel_rfl) (by kernel_rfl) (by kernel_rfl) (fun _ _ _ h => h) (Or.inl ⟨by rfl, fun wS hSw => by (try dsimp only at hSw); go_simp⟩) hHeld ?_
  try simp only [Act.put, List.setIfInBounds_toArray, List.set_cons_zero, List.set_cons_succ]
  refine wpAnyH_take (i := 11) (v := (.bool true)) (get_ops _ _ _ rfl) (by kernel_rfl) (by kernel_rfl) (by kernel_rfl) (fun _ _ _ h => h) (Or.inl ⟨by rfl, fun wS hSw => by (try dsimp only at hSw); go_simp⟩) hHeld ?_
  try simp only [Act.put, List.setIfInBounds_toArray, List.set_cons_zero, List.set_cons_succ]
  refine wpAnyH_done (by kernel_rfl) ?_ _
  go_wp2_with fail
  exact bodyPost_ret (v := .tuple #[.agg (quC s n (.slice A9 ys9.length c9)).toArray, (.slice none 0 0), .bool true]) (res_ctt rfl _ _ gz 26 (quC s n (.slice A9 ys9.length c9)) _ _ _ rfl rfl rfl R_y42.out Tryd.underlying26 rfl quSize) rfl ⟨n, A9, c9, ys9, (.slice none 0 0), [], rfl, by rw [HY9.out]; exact HVX.out.1, HLE7.out.2, by rw [HY9.out]; exact HVX.out.2, HC9.out, (Or.inl (L9_y42.out.en.weak HWL9.out)), (Or.inl ⟨rfl, rfl⟩), B_y42.out⟩

end Go.Proofs.YtjhojpghllnoiaaDoor
