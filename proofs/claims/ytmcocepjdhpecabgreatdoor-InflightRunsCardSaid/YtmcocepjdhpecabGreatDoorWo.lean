/-
  What Start of inflight answers: the window with the message in flight, the packet to send, the error. Conditions: the window and the message read as data; the window is valid, its items few, with few properties; the library's bound on short texts holds a number.
-/
import Derived.Test.YtmcocepjdhpecabGreatDoorWn
import Derived.Test.YtmcocepjdhpecabGreatDoorCheck
namespace Go.Proofs.YtmcocepjdhpecabGreatDoor
open Go.RowKit
open S2 (BK Put)

theorem four {T1 T2 T3 T4 : TypeId} {w w1 : World} {v1 v2 v3 v4 : List Value} (h : w1 = ((((w.alloc (.cells v1.toArray T1)).alloc (.cells v2.toArray T2)).alloc (.cells v3.toArray T3)).alloc (.cells v4.toArray T4))) :
    Below w.heap.size w w1 ∧ BK T1 w1 w.heap.size v1 ∧ BK T2 w1 (w.heap.size + 1) v2 ∧ BK T3 w1 (w.heap.size + 1 + 1) v3 ∧ BK T4 w1 (w.heap.size + 1 + 1 + 1) v4 := by
  obtain ⟨w0, hw0⟩ : ∃ w0, w0 = (((w.alloc (.cells v1.toArray T1)).alloc (.cells v2.toArray T2)).alloc (.cells v3.toArray T3)) := ⟨_, rfl⟩
  rw [← hw0] at h
  obtain ⟨hb, h1, h2, h3⟩ := three hw0
  have hs : w0.heap.size = w.heap.size + 1 + 1 + 1 := by rw [hw0]; simp
  subst h
  refine ⟨stepB hb (S2.below_new w0 _), MT.alloc h1 _, MT.alloc h2 _, MT.alloc h3 _, ?_⟩
  have := BK.new w0 T4 v4
  rwa [hs] at this
/-- a window, a packet and a code that a call answers, all in memory of their own -/
def RetS (r : PW × Pkt × Int) (W : World) (e : Ending) (w' : World) : Prop := ∃ A c ys A2 c2 a3 c3, e = .returned (.tuple #[wv r.1.1 A c ys A2 c2 r.1.2.2.1 r.1.2.2.2, pkV r.2.1 (pubA a3 c3), .int .i64 r.2.2]) ∧ ys.map FE.f = r.1.2.1 ∧ WOk w' A c ys A2 c2 r.1.2.2.1 ∧ (NewL W.heap.size A ∧ (∀ y ∈ ys, NewL W.heap.size y.a) ∧ NewN W.heap.size A2 r.1.2.2.1.length) ∧ PL w' w'.heap.size a3 r.2.1.msg.props ∧ NewL W.heap.size a3 ∧ Below W.heap.size W w'
/-- the results: two structs in blocks of their own, and a value -/
theorem res221 {P : Program} {fn : Func} {p q r : Tmp} {ty uy : TypeId} (h : fn.results = #[.cell p ty, .cell q uy, .tmp r]) (tmps : Array Value) (w : World) (g k : Nat) (t s : TypeId) (vs us : List Value) (d f : TypeDesc) (u : Value)
    (hp : tmps.getD p undef = .pointer (some ⟨g, 0, none⟩)) (hq : tmps.getD q undef = .pointer (some ⟨k, 0, none⟩)) (hr : tmps.getD r undef = u) (hg : BK t w g vs) (hk : BK s w k us)
    (hu : P.underlying ty = some d) (hd : (match d with | .struct _ | .array _ _ => true | _ => false) = true) (hi : (P.info? ty).map (·.size) = some vs.length)
    (hu2 : P.underlying uy = some f) (hd2 : (match f with | .struct _ | .array _ _ => true | _ => false) = true) (hi2 : (P.info? uy).map (·.size) = some us.length) :
    (results fn tmps).run P w = .ok (.tuple #[.agg vs.toArray, .agg us.toArray, u]) w := by
  have hp' : tmps[p]?.getD undef = .pointer (some ⟨g, 0, none⟩) := by simpa using hp
  have hq' : tmps[q]?.getD undef = .pointer (some ⟨k, 0, none⟩) := by simpa using hq
  have hr' : tmps[r]?.getD undef = u := by simpa using hr
  simp [results, h, hp', hq', hr', asAddr, S2.run_load_all hg hu hd hi, S2.run_load_all hk hu2 hd2 hi2]
theorem start_err {L : Int} {F : List Fl} {X : List Int} {l : Int} {m : Msg} {R : PW × Pkt × Int} (h : startR (L, F, X, l) m = R) : (m.level = 0 → ((0, [], [], 0), Pkt.zero, 14) = R) ∧ (m.level ≠ 0 → leftR L F.length = 0 → ((0, [], [], 0), Pkt.zero, 6) = R) ∧ (m.level ≠ 0 → leftR L F.length ≠ 0 → checkR m ≠ 0 → ((0, [], [], 0), Pkt.zero, (checkR m : Int)) = R) ∧ (m.level ≠ 0 → leftR L F.length ≠ 0 → checkR m = 0 → ((L, F ++ [⟨S2.tkI X l, 1, m⟩], S2.insI X (S2.tkI X l), S2.tkI X l), pubP ⟨S2.tkI X l, 1, m⟩ false, 0) = R) := by
  unfold startR at h
  dsimp only at h
  refine ⟨fun h1 => ?_, fun h1 h2 => ?_, fun h1 h2 h3 => ?_, fun h1 h2 h3 => ?_⟩
  · rw [if_pos h1] at h; exact h
  · rw [if_neg h1, if_pos h2] at h; exact h
  · rw [if_neg h1, if_neg h2, if_pos h3] at h; exact h
  · rw [if_neg h1, if_neg h2, if_neg (by simpa using h3)] at h; exact h
theorem checkR_props {m : Msg} (h : checkR m = 0) : m.props.length ≤ 8 := by
  unfold checkR at h
  repeat' split at h
  all_goals first
    | (exfalso; omega)
    | (unfold propsR at h
       split at h
       · omega
       · omega)
theorem gl_one {w : World} {g : Nat} {x : FE} {T : TypeId} (h : BK T w g (gF x)) : GL gF 11 w w.heap.size (some ⟨g, 0, none⟩) [x] := fun _ => ⟨g, 0, rfl, h.lt, fun j y i v hy hv => by
  cases j with
  | zero => simp at hy; subst hy; simpa using h.cell i hv
  | succ j => simp at hy⟩
/-- append of one item onto items of a call's own, as an operation -/
theorem oper_appF {o : Oper} {a : Act} {wr : World} {K : Act → World → Prop} {Q : Exit → Act → World → Prop} (s x : Operand)
    (ho : o.op = .call { callee := .builtin .append, args := #[s, x], argTypes := #[23, 23] }) (B : Nat) (v : Value) (xs : List FE) (y : FE) (g : Nat) (hs : a.eval s = v) (hown : OwnF wr B v xs)
    (hx : a.eval x = .slice (some ⟨g, 0, none⟩) 1 1) (hg : BK 56 wr g (gF y)) (hB : B ≤ wr.heap.size) (hn : xs.length ≤ 100000)
    (h : ∀ v' w', OwnF w' B v' (xs ++ [y]) → wr.grownBy w' v.ownBlock → K (a.put o.dst v') w') : o.wp Tryz.prog a wr K Q := by
  obtain ⟨i, hi, hz, hz1, hz2⟩ := info_parts flInfo
  have hsrc := GL.src gF_len gF_one (gl_one hg) Tryz.underlying23 1
  obtain ⟨v', w', hr, h2, h3⟩ := run_append_own_src (P := Tryz.prog) wr B 23 23 o.type 56 i _ 11 128 Tryz.underlying23 hi hz hz1 hz2 rfl (by decide) v xs.length (xs.flatMap gF) hown _ 1 ([y].flatMap gF) hsrc (by unfold maxLen; omega) (by omega) hB
  unfold Oper.wp execOp
  have hx' : a.eval x = .slice (some ⟨g, 0, none⟩) [y].length 1 := hx
  simp only [ho, resolve, invoke, builtin, Sem.run_bind, Sem.run_pure, Result.andThen_ok, List.map_toArray, List.map_cons, List.map_nil, hs, hx', hr]
  refine h v' w' ?_ h3
  unfold OwnF OwnG
  simpa [List.flatMap_append] using h2
section
variable {w w' : World} {v : Value}
/-- not in the row of v -/
def Off2 (v : Value) (b : Nat) : Prop := ∀ q n c, v = .slice (some ⟨q, 0, none⟩) n c → b ≠ q
theorem own_off {B : Nat} {xs : List FE} (h : OwnF w B v xs) {b : Nat} (ho : Off2 v b) : v.ownBlock ≠ some b := by
  rcases own_rowF h with ⟨rfl, _⟩ | ⟨g, cap, sp, rfl, _⟩
  · simp [Value.ownBlock]
  · have := ho g _ _ rfl
    simp only [Value.ownBlock, ne_eq, Option.some.injEq]
    exact fun e => this e.symm
theorem grown_block {B : Nat} {xs : List FE} (h : OwnF w B v xs) (hg : w.grownBy w' v.ownBlock) {b : Nat} (hb : b < w.heap.size) (ho : Off2 v b) : w'.heap[b]? = w.heap[b]? := hg.block b hb (fun e => own_off h ho e.symm)
theorem BK.grown {B : Nat} {xs : List FE} {T : TypeId} {M : Nat} {vs : List Value} (hM : BK T w M vs) (h : OwnF w B v xs) (hg : w.grownBy w' v.ownBlock) (ho : Off2 v M) : BK T w' M vs := (grown_block h hg hM.lt ho).trans hM
theorem PL.grown {B : Nat} {xs : List FE} {A : Option Addr} {ps : List PR} (hp : PL w w.heap.size A ps) (h : OwnF w B v xs) (hg : w.grownBy w' v.ownBlock) (ho : ∀ b o, A = some ⟨b, o, none⟩ → 0 < ps.length → Off2 v b) : PL w' w'.heap.size A ps := fun hn => by
  obtain ⟨b, o, e, hb, hc⟩ := hp hn
  refine ⟨b, o, e, Nat.lt_of_lt_of_le hb hg.size, fun j x i u hx hu => ?_⟩
  rw [World.cell?_of_block (a := ⟨b, o + j * 2 + i, none⟩) (grown_block h hg hb (ho b o e hn))]
  exact hc j x i u hx hu
theorem IL.grown {B : Nat} {xs : List FE} {A : Option Addr} {X : List Int} (hp : S2.IL w w.heap.size A X) (h : OwnF w B v xs) (hg : w.grownBy w' v.ownBlock) (ho : ∀ b o, A = some ⟨b, o, none⟩ → 0 < X.length → Off2 v b) : S2.IL w' w'.heap.size A X := fun hn => by
  obtain ⟨b, o, e, hb, hc⟩ := hp hn
  refine ⟨b, o, e, Nat.lt_of_lt_of_le hb hg.size, fun j x hx => ?_⟩
  rw [World.cell?_of_block (a := ⟨b, o + j, none⟩) (grown_block h hg hb (ho b o e hn))]
  exact hc j x hx
theorem Below.grown' {B B0 : Nat} {xs : List FE} {w0 : World} (hb : Below B0 w0 w) (h : OwnF w B v xs) (hg : w.grownBy w' v.ownBlock) (hB : B0 ≤ w.heap.size) (hle : B0 ≤ B) : Below B0 w0 w' := hb.grown hg hB (fun j hj => Nat.le_trans hle (World.ownsRow.lt h j hj).1)
end

set_option maxRecDepth 20000 in
set_option maxHeartbeats 8000000 in
theorem start_any (L : Int) (A : Option Addr) (c : Nat) (xs : List FE) (A2 : Option Addr) (c2 : Nat) (X : List Int) (l : Int) (m : Msg) (am : Option Addr) (cm : Nat) (w : World) (hok : S1.Okw w) (hw : WOk w A c xs A2 c2 X) (hm : PL w w.heap.size am m.props) (h0 : 0 ≤ L) (h1 : L ≤ 32) (hn : xs.length ≤ 32) (hp : ∀ x ∈ xs, x.f.m.props.length ≤ 100000) (hX : S2.ckI X l = 0) (hXl : X.length ≤ xs.length) :
    Calls Tryz.prog 7 #[wv L A c xs A2 c2 X l, msgV m am cm] w (RetS (startR (L, xs.map FE.f, X, l) m) w) := by
  have HLF := Lib.hid (fun w1 => left_any L A c xs A2 c2 X l w1 h0 h1 hn)
  have HCK := Lib.hid (fun w1 ho h => check_any m am cm w1 ho h)
  have HTK := Lib.hid (fun w1 h => S2.iTakeN_any A2 c2 X l w1 h hw.2.2.2 hX)
  have HCI := Lib.hid (fun w1 h => cloneItems_any A c xs w1 h (by omega) hp)
  have HCM := Lib.hid (fun w1 h hl => cloneMessage_any m am cm w1 h hl)
  have HPU := Lib.hid (fun x w1 h hl => publish_any x w1 h hl)
  have HW := Lib.hid hw
  have HM := Lib.hid hm
  have HOK := Lib.hid hok
  have HXL := Lib.hid hXl
  have HLB := Lib.hid (And.intro h0 h1)
  obtain ⟨R, hR⟩ : ∃ R, startR (L, xs.map FE.f, X, l) m = R := ⟨_, rfl⟩
  rw [hR]
  have hse := start_err hR
  rw [List.length_map] at hse
  have HSE := Lib.hid hse
  clear hR hw hm hok hX hXl h0 h1 hse hp
  unfold msgV
  go_enter Tryz.func7, Tryz.ntmps7
  go_upto_region 1 with fail
  refine name_world (C := fun w1 => Code.wp _ _ _ _ w1) ((((w.alloc (.cells (wcs L A c xs A2 c2 X l).toArray 28)).alloc (.cells (msgC m am cm).toArray 34)).alloc (.cells (wcs 0 none 0 [] none 0 [] 0).toArray 28)).alloc (.cells zeroPk.toArray 42)) ?_
  intro w1 hw1
  obtain ⟨hB0, t1, t2, t3, t4⟩ := four hw1
  have T_w1 := Lib.hid t1
  have M_w1 := Lib.hid t2
  have R_w1 := Lib.hid t3
  have K_w1 := Lib.hid t4
  have B_w1 := Lib.hid hB0
  have d2 := t2.cell 2 rfl
  clear hw1 t1 t2 t3 t4 hB0
  by_cases hl : m.level = 0
  · have q1 : (m.level == 0) = true := by simp [hl]
    have HRR := Lib.hid (HSE.out.1 hl)
    clear hl
    go_wp2_with first
      | (refine S2.wpList_store_all (by rfl) 28 (.tmp 4) (.tmp 16) rfl rfl (w.heap.size + 1 + 1) rfl (wcs 0 none 0 [] none 0 [] 0) rfl 28 (wcs 0 none 0 [] none 0 [] 0) R_w1.out winSize rfl (ones rfl) ?_; intro wf hM hP; have MF := Lib.hid hM; have KF := Lib.hid (hP.other K_w1.out (by omega)); have BF := Lib.hid (hP.below B_w1.out (by omega)); clear hM hP)
      | (refine S2.wpList_store_all (by rfl) 42 (.tmp 5) (.tmp 17) rfl rfl (w.heap.size + 1 + 1 + 1) rfl zeroPk rfl 42 zeroPk KF.out pktSize rfl (pkOnes _ _) ?_; intro wg hM hP; have KG := Lib.hid hM; have MG := Lib.hid (hP.other MF.out (by omega)); have BG := Lib.hid (hP.below BF.out (by omega)); clear hM hP)
    rw [← HRR.out]
    exact bodyPost_ret (v := .tuple #[wv 0 none 0 [] none 0 [] 0, pkV Pkt.zero PA.zero, .int .i64 14]) (res221 rfl _ _ (w.heap.size + 1 + 1) (w.heap.size + 1 + 1 + 1) 28 42 (wcs 0 none 0 [] none 0 [] 0) zeroPk _ _ _ rfl rfl rfl MG.out KG.out Tryz.underlying28 rfl winSize Tryz.underlying42 rfl pktSize) rfl ⟨none, 0, [], none, 0, none, 0, rfl, rfl, ⟨FI.nil _ _ _, Nat.le_refl _, CL.nil _ _ _, Nat.le_refl _⟩, ⟨(fun b o e => by cases e), (fun y hy => by cases hy), fun _ b o e => by cases e⟩, GL.nil _ _ _, (fun b o e => by cases e), BG.out⟩
  have q1 : (m.level == 0) = false := by simp [hl]
  go_wp2_with first
    | (refine wpList_load_v (by rfl) 28 (.tmp 2) rfl ⟨w.heap.size, 0, none⟩ rfl (wv L A c xs A2 c2 X l) (S2.run_load_all T_w1.out Tryz.underlying28 rfl winSize) ?_)
  refine (HLF.out w1).mono ?_
  rintro e w2 ⟨rfl, hb⟩
  have T_w2 := Lib.hid (T_w1.out.step hb)
  have M_w2 := Lib.hid (M_w1.out.step hb)
  have R_w2 := Lib.hid (R_w1.out.step hb)
  have K_w2 := Lib.hid (K_w1.out.step hb)
  have B_w2 := Lib.hid (stepB B_w1.out hb)
  clear hb T_w1 M_w1 R_w1 K_w1 B_w1 d2 q1 HLF
  by_cases hf : leftR L xs.length = 0
  · have q2 : (leftR L xs.length == 0) = true := by simp [hf]
    have HRR := Lib.hid (HSE.out.2.1 hl hf)
    clear hl hf
    go_wp2_with first
      | (refine S2.wpList_store_all (by rfl) 28 (.tmp 4) (.tmp 22) rfl rfl (w.heap.size + 1 + 1) rfl (wcs 0 none 0 [] none 0 [] 0) rfl 28 (wcs 0 none 0 [] none 0 [] 0) R_w2.out winSize rfl (ones rfl) ?_; intro wf hM hP; have MF := Lib.hid hM; have KF := Lib.hid (hP.other K_w2.out (by omega)); have BF := Lib.hid (hP.below B_w2.out (by omega)); clear hM hP)
      | (refine S2.wpList_store_all (by rfl) 42 (.tmp 5) (.tmp 23) rfl rfl (w.heap.size + 1 + 1 + 1) rfl zeroPk rfl 42 zeroPk KF.out pktSize rfl (pkOnes _ _) ?_; intro wg hM hP; have KG := Lib.hid hM; have MG := Lib.hid (hP.other MF.out (by omega)); have BG := Lib.hid (hP.below BF.out (by omega)); clear hM hP)
    rw [← HRR.out]
    exact bodyPost_ret (v := .tuple #[wv 0 none 0 [] none 0 [] 0, pkV Pkt.zero PA.zero, .int .i64 6]) (res221 rfl _ _ (w.heap.size + 1 + 1) (w.heap.size + 1 + 1 + 1) 28 42 (wcs 0 none 0 [] none 0 [] 0) zeroPk _ _ _ rfl rfl rfl MG.out KG.out Tryz.underlying28 rfl winSize Tryz.underlying42 rfl pktSize) rfl ⟨none, 0, [], none, 0, none, 0, rfl, rfl, ⟨FI.nil _ _ _, Nat.le_refl _, CL.nil _ _ _, Nat.le_refl _⟩, ⟨(fun b o e => by cases e), (fun y hy => by cases hy), fun _ b o e => by cases e⟩, GL.nil _ _ _, (fun b o e => by cases e), BG.out⟩
  have q2 : (leftR L xs.length == 0) = false := by simp [hf]
  have HLFT : Hid (xs.length < 32 ∧ X.length < 32) := Lib.hid (by
    have := HLB.out
    have := HXL.out
    unfold leftR at hf
    split at hf
    · exact absurd rfl hf
    · omega)
  go_wp2_with first
    | (refine wpList_load_v (by rfl) 34 (.tmp 3) rfl ⟨w.heap.size + 1, 0, none⟩ rfl (msgV m am cm) (S2.run_load_all M_w2.out Tryz.underlying34 rfl msgSize) ?_)
  refine (HCK.out w2 (HOK.out.step B_w2.out) (HM.out.step B_w2.out)).mono ?_
  rintro e w3 ⟨rfl, hb⟩
  have T_w3 := Lib.hid (T_w2.out.step hb)
  have M_w3 := Lib.hid (M_w2.out.step hb)
  have R_w3 := Lib.hid (R_w2.out.step hb)
  have K_w3 := Lib.hid (K_w2.out.step hb)
  have B_w3 := Lib.hid (stepB B_w2.out hb)
  clear hb T_w2 M_w2 R_w2 K_w2 B_w2 q2 HCK
  by_cases hc : checkR m = 0
  rotate_left
  · have q3 : ((checkR m : Int) != 0) = true := by simp; omega
    have HRR := Lib.hid (HSE.out.2.2.1 hl hf hc)
    clear hl hf hc
    generalize ((checkR m : Nat) : Int) = z at q3 HRR ⊢
    go_wp2_with first
      | (refine S2.wpList_store_all (by rfl) 28 (.tmp 4) (.tmp 28) rfl rfl (w.heap.size + 1 + 1) rfl (wcs 0 none 0 [] none 0 [] 0) rfl 28 (wcs 0 none 0 [] none 0 [] 0) R_w3.out winSize rfl (ones rfl) ?_; intro wf hM hP; have MF := Lib.hid hM; have KF := Lib.hid (hP.other K_w3.out (by omega)); have BF := Lib.hid (hP.below B_w3.out (by omega)); clear hM hP)
      | (refine S2.wpList_store_all (by rfl) 42 (.tmp 5) (.tmp 29) rfl rfl (w.heap.size + 1 + 1 + 1) rfl zeroPk rfl 42 zeroPk KF.out pktSize rfl (pkOnes _ _) ?_; intro wg hM hP; have KG := Lib.hid hM; have MG := Lib.hid (hP.other MF.out (by omega)); have BG := Lib.hid (hP.below BF.out (by omega)); clear hM hP)
    rw [← HRR.out]
    exact bodyPost_ret (v := .tuple #[wv 0 none 0 [] none 0 [] 0, pkV Pkt.zero PA.zero, .int .i64 z]) (res221 rfl _ _ (w.heap.size + 1 + 1) (w.heap.size + 1 + 1 + 1) 28 42 (wcs 0 none 0 [] none 0 [] 0) zeroPk _ _ _ rfl rfl rfl MG.out KG.out Tryz.underlying28 rfl winSize Tryz.underlying42 rfl pktSize) rfl ⟨none, 0, [], none, 0, none, 0, rfl, rfl, ⟨FI.nil _ _ _, Nat.le_refl _, CL.nil _ _ _, Nat.le_refl _⟩, ⟨(fun b o e => by cases e), (fun y hy => by cases hy), fun _ b o e => by cases e⟩, GL.nil _ _ _, (fun b o e => by cases e), BG.out⟩
  have HML := Lib.hid (checkR_props hc)
  have HRR := Lib.hid (HSE.out.2.2.2 hl hf hc)
  rw [hc]
  clear hl hf hc HSE
  have htk : S2.tkR X l = (S2.tkI X l, S2.insI X (S2.tkI X l), S2.tkI X l, 0) := by unfold S2.tkR; rw [if_neg (by have := HLFT.out; omega)]
  rw [htk] at HTK
  have hxl5 : (S2.insI X (S2.tkI X l)).length = X.length + 1 := S2.ins_len _ _
  have HL5 : Hid (0 < (S2.insI X (S2.tkI X l)).length) := Lib.hid (by omega)
  clear htk hxl5
  generalize S2.insI X (S2.tkI X l) = X5 at HTK HRR HL5
  generalize S2.tkI X l = n5 at HTK HRR
  go_wp2_with first
    | (refine wpList_load_v (by rfl) 26 _ rfl ⟨w.heap.size, 2, none⟩ rfl (S2.pv A2 c2 X l) (bk_pool T_w3.out) ?_)
  refine (HTK.out w3 (CL.step HW.out.2.2.1 B_w3.out)).mono ?_
  rintro e w4 ⟨A5, c5, rfl, hc5, hil5, hfr5, hb⟩
  have T_w4 := Lib.hid (T_w3.out.step hb)
  have M_w4 := Lib.hid (M_w3.out.step hb)
  have R_w4 := Lib.hid (R_w3.out.step hb)
  have K_w4 := Lib.hid (K_w3.out.step hb)
  have B_w4 := Lib.hid (stepB B_w3.out hb)
  have HC5 := Lib.hid hc5
  have HI5 := Lib.hid hil5
  have HN5 : Hid (∀ b o, A5 = some ⟨b, o, none⟩ → w.heap.size + 1 + 1 + 1 < b) := Lib.hid (fun b o e => by
    have hk := K_w3.out.lt
    rcases hfr5 with h | h
    · have := HL5.out
      have h' : X5 = [] := h
      rw [h'] at this
      simp at this
    · have := h b o e
      omega)
  clear hb T_w3 M_w3 R_w3 K_w3 B_w3 hc5 hil5 hfr5 HTK
  dsimp only at HC5 HI5 HN5
  go_wp2_with first
    | (refine S2.wpList_store_all (by rfl) 26 (.tmp 9) (.tmp 36) rfl rfl w4.heap.size rfl [.slice A5 X5.length c5, .int .i64 n5] rfl 26 [.slice none 0 0, .int .i64 0] (BK.new w4 _ _) S2.infoP2 rfl (ones rfl) ?_; intro w5 hM hP; have P_w5 : Hid (BK 26 w5 w4.heap.size [.slice A5 X5.length c5, .int .i64 n5]) := Lib.hid hM; have hbx : Below w4.heap.size w4 w5 := hP.below (S2.below_new w4 _) (Nat.le_refl _); have T_w5 := Lib.hid (T_w4.out.step hbx); have M_w5 := Lib.hid (M_w4.out.step hbx); have R_w5 := Lib.hid (R_w4.out.step hbx); have K_w5 := Lib.hid (K_w4.out.step hbx); have B_w5 := Lib.hid (stepB B_w4.out hbx); have I_w5 : Hid (S2.IL w5 w5.heap.size A5 X5) := Lib.hid (CL.step HI5.out hbx); have HA5 : Hid (Away w4.heap.size A5 X5.length) := Lib.hid (fun hn b o e => by have := S2.IL.lt HI5.out b o e hn; omega); have ZP : Hid (w.heap.size + 1 + 1 + 1 < w4.heap.size) := Lib.hid K_w4.out.lt; clear hM hP hbx T_w4 M_w4 R_w4 K_w4 B_w4 HI5)
    | (refine wpList_load_v (by rfl) 34 (.tmp 3) rfl ⟨w.heap.size + 1, 0, none⟩ rfl (msgV m am cm) (S2.run_load_all M_w5.out Tryz.underlying34 rfl msgSize) ?_)
  refine (HCM.out w5 (HM.out.step B_w5.out) (by have := HML.out; omega)).mono ?_
  rintro e w6 ⟨a6, c6, rfl, hpl6, hnew6, hb⟩
  have T_w6 := Lib.hid (T_w5.out.step hb)
  have R_w6 := Lib.hid (R_w5.out.step hb)
  have K_w6 := Lib.hid (K_w5.out.step hb)
  have P_w6 := Lib.hid (P_w5.out.step hb)
  have B_w6 := Lib.hid (stepB B_w5.out hb)
  have I_w6 : Hid (S2.IL w6 w6.heap.size A5 X5) := Lib.hid (CL.step I_w5.out hb)
  have HP6 := Lib.hid hpl6
  have HN6 := Lib.hid hnew6
  have HZ5 : Hid (w4.heap.size < w5.heap.size) := Lib.hid P_w5.out.lt
  clear hb T_w5 M_w5 R_w5 K_w5 P_w5 B_w5 I_w5 hpl6 hnew6 HCM
  obtain ⟨x, hx⟩ : ∃ x : FE, x = ⟨⟨n5, 1, m⟩, a6, c6⟩ := ⟨_, rfl⟩
  have HX := Lib.hid hx
  have hgx : gF x = gF ⟨⟨n5, 1, m⟩, a6, c6⟩ := by rw [hx]
  have HGX := Lib.hid hgx
  clear hx hgx
  simp only [msgV]
  go_upto_region 12 with first
    | (refine S2.wpList_store_all (by rfl) 56 (.tmp 11) (.tmp 46) rfl rfl w6.heap.size rfl (gF ⟨⟨n5, 1, m⟩, a6, c6⟩) rfl 56 (gF FE.zero) (BK.new w6 _ _) flSize rfl (gF_one _) ?_; intro w7 hM hP; have F_w7 : Hid (BK 56 w7 w6.heap.size (gF x)) := Lib.hid (by rw [HGX.out]; exact hM); have hbx : Below w6.heap.size w6 w7 := hP.below (S2.below_new w6 _) (Nat.le_refl _); have T_w7 := Lib.hid (T_w6.out.step hbx); have R_w7 := Lib.hid (R_w6.out.step hbx); have K_w7 := Lib.hid (K_w6.out.step hbx); have P_w7 := Lib.hid (P_w6.out.step hbx); have B_w7 := Lib.hid (stepB B_w6.out hbx); have I_w7 : Hid (S2.IL w7 w7.heap.size A5 X5) := Lib.hid (CL.step I_w6.out hbx); have Q_w7 : Hid (PL w7 w7.heap.size x.a x.f.m.props) := Lib.hid (by rw [HX.out]; exact HP6.out.step hbx); have HNX : Hid (∀ b o, x.a = some ⟨b, o, none⟩ → w4.heap.size < b) := Lib.hid (fun b o e => by rw [HX.out] at e; have := HN6.out b o e; have := HZ5.out; omega); have ZF : Hid (w4.heap.size < w6.heap.size) := Lib.hid P_w6.out.lt; have HXM : Hid (x.f = ⟨n5, 1, m⟩) := Lib.hid (by rw [HX.out]); clear hM hP hbx T_w6 R_w6 K_w6 P_w6 B_w6 I_w6 HP6 HN6)
  have HXP : Hid (x.f.m.props.length ≤ 100000) := Lib.hid (by rw [HXM.out]; have := HML.out; show m.props.length ≤ 100000; omega)
  have D_w7 : Hid (FI w7 w7.heap.size A xs) := Lib.hid (HW.out.1.step B_w7.out)
  have Z_w7 : Hid (w6.heap.size < w7.heap.size) := Lib.hid F_w7.out.lt
  obtain ⟨h1, hh1⟩ : ∃ h1, h1 = World.drew w7 := ⟨_, rfl⟩
  have hbD : Below w7.heap.size w7 h1 := by rw [hh1]; exact (Below.refl _ _).drew
  have T_h1 : Hid (BK 28 h1 w.heap.size (wcs L A c xs A2 c2 X l)) := Lib.hid (T_w7.out.step hbD)
  have R_h1 : Hid (BK 28 h1 (w.heap.size + 1 + 1) (wcs 0 none 0 [] none 0 [] 0)) := Lib.hid (R_w7.out.step hbD)
  have K_h1 : Hid (BK 42 h1 (w.heap.size + 1 + 1 + 1) zeroPk) := Lib.hid (K_w7.out.step hbD)
  have P_h1 : Hid (BK 26 h1 w4.heap.size [.slice A5 X5.length c5, .int .i64 n5]) := Lib.hid (P_w7.out.step hbD)
  have F_h1 : Hid (BK 56 h1 w6.heap.size (gF x)) := Lib.hid (F_w7.out.step hbD)
  have B_h1 : Hid (Below w.heap.size w h1) := Lib.hid (stepB B_w7.out hbD)
  have I_h1 : Hid (S2.IL h1 h1.heap.size A5 X5) := Lib.hid (CL.step I_w7.out hbD)
  have Q_h1 : Hid (PL h1 h1.heap.size x.a x.f.m.props) := Lib.hid (Q_w7.out.step hbD)
  have D_h1 : Hid (FI h1 h1.heap.size A xs) := Lib.hid (D_w7.out.step hbD)
  have Z_h1 : Hid (w6.heap.size < h1.heap.size) := Lib.hid (Nat.lt_of_lt_of_le Z_w7.out hbD.size)
  clear T_w7 R_w7 K_w7 P_w7 F_w7 B_w7 I_w7 Q_w7 D_w7 Z_w7
  have hbd : (fun w' => BK 28 w' w.heap.size (wcs L A c xs A2 c2 X l) ∧ BK 26 w' w4.heap.size [.slice A5 X5.length c5, .int .i64 n5] ∧ BK 56 w' w6.heap.size (gF x)) (World.drew w7) := by rw [← hh1]; exact ⟨T_h1.out, P_h1.out, F_h1.out⟩
  have hSD : (fun w' => BK 28 w' w.heap.size (wcs L A c xs A2 c2 X l) ∧ BK 26 w' w4.heap.size [.slice A5 X5.length c5, .int .i64 n5] ∧ BK 56 w' w6.heap.size (gF x)) h1 := ⟨T_h1.out, P_h1.out, F_h1.out⟩
  have HWD := Lib.hid hh1
  clear hh1 hbD
  refine wp_region_held_drew (S := fun w' => BK 28 w' w.heap.size (wcs L A c xs A2 c2 X l) ∧ BK 26 w' w4.heap.size [.slice A5 X5.length c5, .int .i64 n5] ∧ BK 56 w' w6.heap.size (gF x)) (by kernel_rfl) hbd (fun hHeld => ?_)
  rw [← HWD.out]
  clear hHeld
  have hHeld := hSD
  clear hSD hbd HWD
  refine wpAnyH_take (i := 0) (v := .pointer (some ⟨w.heap.size, 0, none⟩)) (get_ops _ _ _ rfl) (by kernel_rfl) (by kernel_rfl) (by kernel_rfl) (fun _ _ _ h => h) (Or.inl ⟨by rfl, fun wS hSw => by (try dsimp only at hSw); go_simp⟩) hHeld ?_
  try simp only [Act.put, List.setIfInBounds_toArray, List.set_cons_zero, List.set_cons_succ]
  refine wpAnyH_take (i := 1) (v := .int .i64 L) (get_ops _ _ _ rfl) (by kernel_rfl) (by kernel_rfl) (by kernel_rfl) (fun _ _ _ h => h) (Or.inl ⟨by rfl, fun wS hSw => by (try dsimp only at hSw); have cS : wS.cell? ⟨w.heap.size, 0, none⟩ = some (.int .i64 L) := hSw.1.cell 0 rfl; clear hSw; go_simp⟩) hHeld ?_
  try simp only [Act.put, List.setIfInBounds_toArray, List.set_cons_zero, List.set_cons_succ]
  refine wpAnyH_take (i := 2) (v := .pointer (some ⟨w.heap.size, 1, none⟩)) (get_ops _ _ _ rfl) (by kernel_rfl) (by kernel_rfl) (by kernel_rfl) (fun _ _ _ h => h) (Or.inl ⟨by rfl, fun wS hSw => by (try dsimp only at hSw); go_simp⟩) hHeld ?_
  try simp only [Act.put, List.setIfInBounds_toArray, List.set_cons_zero, List.set_cons_succ]
  refine wpAnyH_take (i := 3) (v := .slice A xs.length c) (get_ops _ _ _ rfl) (by kernel_rfl) (by kernel_rfl) (by kernel_rfl) (fun _ _ _ h => h) (Or.inl ⟨by rfl, fun wS hSw => by (try dsimp only at hSw); have cS : wS.cell? ⟨w.heap.size, 1, none⟩ = some (.slice A xs.length c) := hSw.1.cell 1 rfl; clear hSw; go_simp⟩) hHeld ?_
  try simp only [Act.put, List.setIfInBounds_toArray, List.set_cons_zero, List.set_cons_succ]
  refine wpAnyH_take (i := 5) (v := fV x) (get_ops _ _ _ rfl) (by kernel_rfl) (by kernel_rfl) (by kernel_rfl) (fun _ _ _ h => h) (Or.inl ⟨by rfl, fun wS hSw => by (try dsimp only at hSw); exact exec_load 56 _ rfl ⟨w6.heap.size, 0, none⟩ (by go_simp) _ (bk_item hSw.2.2)⟩) hHeld ?_
  try simp only [Act.put, List.setIfInBounds_toArray, List.set_cons_zero, List.set_cons_succ]
  refine wpAnyH_take (i := 8) (v := S2.pv A5 c5 X5 n5) (get_ops _ _ _ rfl) (by kernel_rfl) (by kernel_rfl) (by kernel_rfl) (fun _ _ _ h => h) (Or.inl ⟨by rfl, fun wS hSw => by (try dsimp only at hSw); exact exec_load 26 _ rfl ⟨w4.heap.size, 0, none⟩ (by go_simp) _ (S2.run_load_all hSw.2.1 Tryz.underlying26 rfl S2.infoP2)⟩) hHeld ?_
  try simp only [Act.put, List.setIfInBounds_toArray, List.set_cons_zero, List.set_cons_succ]
  refine wpAnyH_take (i := 10) (v := fV x) (get_ops _ _ _ rfl) (by kernel_rfl) (by kernel_rfl) (by kernel_rfl) (fun _ _ _ h => h) (Or.inl ⟨by rfl, fun wS hSw => by (try dsimp only at hSw); exact exec_load 56 _ rfl ⟨w6.heap.size, 0, none⟩ (by go_simp) _ (bk_item hSw.2.2)⟩) hHeld ?_
  try simp only [Act.put, List.setIfInBounds_toArray, List.set_cons_zero, List.set_cons_succ]
  refine wpAnyH_ready (rs := [4, 6]) (by kernel_rfl) (by simp) ?_
  refine (AllReadyH.cons (get_ops _ _ _ rfl) (fun K hK => ?_) (AllReadyH.cons (get_ops _ _ _ rfl) (fun K hK => ?_) AllReadyH.nil))
  · have ZO := Z_h1
    have IO := I_h1
    have QO := Q_h1
    go_simp
    refine (HCI.out h1 D_h1.out).mono ?_
    rintro e h2 ⟨v2, ys, rfl, hys, hown, ⟨M0, hM0, hMg, hpl⟩, hb⟩
    have T_h2 : Hid (BK 28 h2 w.heap.size (wcs L A c xs A2 c2 X l)) := Lib.hid (T_h1.out.step hb)
    have R_h2 : Hid (BK 28 h2 (w.heap.size + 1 + 1) (wcs 0 none 0 [] none 0 [] 0)) := Lib.hid (R_h1.out.step hb)
    have K_h2 : Hid (BK 42 h2 (w.heap.size + 1 + 1 + 1) zeroPk) := Lib.hid (K_h1.out.step hb)
    have P_h2 : Hid (BK 26 h2 w4.heap.size [.slice A5 X5.length c5, .int .i64 n5]) := Lib.hid (P_h1.out.step hb)
    have F_h2 : Hid (BK 56 h2 w6.heap.size (gF x)) := Lib.hid (F_h1.out.step hb)
    have B_h2 : Hid (Below w.heap.size w h2) := Lib.hid (stepB B_h1.out hb)
    have I_h2 : Hid (S2.IL h2 h2.heap.size A5 X5) := Lib.hid (CL.step I_h1.out hb)
    have Q_h2 : Hid (PL h2 h2.heap.size x.a x.f.m.props) := Lib.hid (Q_h1.out.step hb)
    have D_h2 : Hid (FI h2 h2.heap.size A xs) := Lib.hid (D_h1.out.step hb)
    have Z_h2 : Hid (w6.heap.size < h2.heap.size) := Lib.hid (Nat.lt_of_lt_of_le Z_h1.out hb.size)
    clear T_h1 R_h1 K_h1 P_h1 F_h1 B_h1 I_h1 Q_h1 D_h1 Z_h1
    clear D_h2
    have hits : Its (w6.heap.size + 1) h2 v2 ys := ⟨hown.weak ZO.out, fun y hy => (hpl y hy).1⟩
    have Y_h2 : Hid (Its (w6.heap.size + 1) h2 v2 ys) := Lib.hid (hits)
    have HYS := Lib.hid hys
    have HSELF : Hid (∀ q n c, v2 = .slice (some ⟨q, 0, none⟩) n c → ∀ y ∈ ys, Away q y.a y.f.m.props.length) := Lib.hid (fun q n c e y hy _ b o e2 => by have := hMg q n c e; have := (hpl y hy).2 b o e2; omega)
    have HNEW : Hid (∀ y ∈ ys, NewL (w6.heap.size + 1) y.a) := Lib.hid (fun y hy b o e2 => by have := (hpl y hy).2 b o e2; have := ZO.out; omega)
    have HOI : Hid (∀ b o, A5 = some ⟨b, o, none⟩ → 0 < X5.length → Off2 v2 b) := Lib.hid (fun b o e hn q n c e2 => by have := hown.lt q n c e2; have := S2.IL.lt IO.out b o e hn; omega)
    have HOQ : Hid (∀ b o, x.a = some ⟨b, o, none⟩ → 0 < x.f.m.props.length → Off2 v2 b) := Lib.hid (fun b o e hn q n c e2 => by have := hown.lt q n c e2; have := QO.out.lt hn b o e; omega)
    have HOV : Hid (∀ b, b < w6.heap.size + 1 → Off2 v2 b) := Lib.hid (fun b hb2 q n c e2 => by have := hown.lt q n c e2; have := ZO.out; omega)
    clear hits hys hown hM0 hMg hpl ZO IO QO
    clear hHeld hb
    go_wp2_with fail
    refine hK.out _ _ ⟨T_h2.out, P_h2.out, F_h2.out⟩ (fun hHeld => ?_)
    clear hK K
    try simp only [Act.put, List.setIfInBounds_toArray, List.set_cons_zero, List.set_cons_succ]
    refine wpAnyH_ready (rs := [6]) (by kernel_rfl) (by simp) ?_
    refine (AllReadyH.cons (get_ops _ _ _ rfl) (fun K hK => ?_) AllReadyH.nil)
    simp only [fV, gF]
    go_simp
    obtain ⟨vb, hvb⟩ : ∃ vb, vb = h2.heap.size := ⟨_, rfl⟩
    refine name_world (C := fun w9 => K _ w9) (h2.alloc (.cells (gF x).toArray 56)) ?_
    intro h3 hh3
    have hb : Below h2.heap.size h2 h3 := by rw [hh3]; exact S2.below_new _ _
    have hN : BK 56 h3 vb (gF x) := by rw [hh3, hvb]; exact BK.new _ _ _
    have HOVB : Hid (Off2 v2 vb) := Lib.hid (fun q n c e2 => by have := Y_h2.out.1.lt q n c e2; omega)
    have T_h3 : Hid (BK 28 h3 w.heap.size (wcs L A c xs A2 c2 X l)) := Lib.hid (T_h2.out.step hb)
    have R_h3 : Hid (BK 28 h3 (w.heap.size + 1 + 1) (wcs 0 none 0 [] none 0 [] 0)) := Lib.hid (R_h2.out.step hb)
    have K_h3 : Hid (BK 42 h3 (w.heap.size + 1 + 1 + 1) zeroPk) := Lib.hid (K_h2.out.step hb)
    have P_h3 : Hid (BK 26 h3 w4.heap.size [.slice A5 X5.length c5, .int .i64 n5]) := Lib.hid (P_h2.out.step hb)
    have F_h3 : Hid (BK 56 h3 w6.heap.size (gF x)) := Lib.hid (F_h2.out.step hb)
    have B_h3 : Hid (Below w.heap.size w h3) := Lib.hid (stepB B_h2.out hb)
    have I_h3 : Hid (S2.IL h3 h3.heap.size A5 X5) := Lib.hid (CL.step I_h2.out hb)
    have Q_h3 : Hid (PL h3 h3.heap.size x.a x.f.m.props) := Lib.hid (Q_h2.out.step hb)
    have Z_h3 : Hid (w6.heap.size < h3.heap.size) := Lib.hid (Nat.lt_of_lt_of_le Z_h2.out hb.size)
    have Y_h3 : Hid (Its (w6.heap.size + 1) h3 v2 ys) := Lib.hid (Y_h2.out.step hb)
    clear T_h2 R_h2 K_h2 P_h2 F_h2 B_h2 I_h2 Q_h2 Z_h2 Y_h2
    have V_h3 := Lib.hid hN
    try rw [← hvb]
    clear hHeld hb hN hh3 hvb
    refine hK.out _ _ ⟨T_h3.out, P_h3.out, F_h3.out⟩ (fun hHeld => ?_)
    clear hK K
    try simp only [Act.put, List.setIfInBounds_toArray, List.set_cons_zero, List.set_cons_succ]
    refine wpAnyH_ready (rs := [7]) (by kernel_rfl) (by simp) ?_
    refine (AllReadyH.cons (get_ops _ _ _ rfl) (fun K hK => ?_) AllReadyH.nil)
    rw [if_pos (by rfl)]
    refine oper_appF (.tmp 51) (.tmp 53) rfl (w6.heap.size + 1) v2 ys x vb (by go_simp) Y_h3.out.1 (by go_simp) V_h3.out Z_h3.out (by rw [sameLen HYS.out]; omega) ?_
    intro v3 h4 hown3 hgr
    have hoy := Y_h3.out
    have T_h4 : Hid (BK 28 h4 w.heap.size (wcs L A c xs A2 c2 X l)) := Lib.hid (BK.grown T_h3.out hoy.1 hgr (HOV.out _ (by have := ZP.out; have := ZF.out; omega)))
    have R_h4 : Hid (BK 28 h4 (w.heap.size + 1 + 1) (wcs 0 none 0 [] none 0 [] 0)) := Lib.hid (BK.grown R_h3.out hoy.1 hgr (HOV.out _ (by have := ZP.out; have := ZF.out; omega)))
    have K_h4 : Hid (BK 42 h4 (w.heap.size + 1 + 1 + 1) zeroPk) := Lib.hid (BK.grown K_h3.out hoy.1 hgr (HOV.out _ (by have := ZP.out; have := ZF.out; omega)))
    have P_h4 : Hid (BK 26 h4 w4.heap.size [.slice A5 X5.length c5, .int .i64 n5]) := Lib.hid (BK.grown P_h3.out hoy.1 hgr (HOV.out _ (by have := ZP.out; have := ZF.out; omega)))
    have F_h4 : Hid (BK 56 h4 w6.heap.size (gF x)) := Lib.hid (BK.grown F_h3.out hoy.1 hgr (HOV.out _ (by have := ZP.out; have := ZF.out; omega)))
    have B_h4 : Hid (Below w.heap.size w h4) := Lib.hid (Below.grown' B_h3.out hoy.1 hgr B_h3.out.size (by have := ZP.out; have := ZF.out; omega))
    have I_h4 : Hid (S2.IL h4 h4.heap.size A5 X5) := Lib.hid (IL.grown I_h3.out hoy.1 hgr HOI.out)
    have Q_h4 : Hid (PL h4 h4.heap.size x.a x.f.m.props) := Lib.hid (PL.grown Q_h3.out hoy.1 hgr HOQ.out)
    have Z_h4 : Hid (w6.heap.size < h4.heap.size) := Lib.hid (Nat.lt_of_lt_of_le Z_h3.out hgr.size)
    have W_h4 : Hid (Its (w6.heap.size + 1) h4 v3 (ys ++ [x])) := Lib.hid ⟨hown3, fun y hy => by
    rcases List.mem_append.1 hy with hy | hy
    · exact PL.grown (hoy.2 y hy) hoy.1 hgr (fun b o e hn q n c e2 => HSELF.out q n c e2 y hy hn b o e)
    · simp at hy; subst hy; exact Q_h4.out⟩
    clear hoy hown3 hgr hHeld T_h3 R_h3 K_h3 P_h3 F_h3 B_h3 I_h3 Q_h3 Z_h3 Y_h3 V_h3
    have HNW : Hid (∀ y ∈ ys ++ [x], NewL (w4.heap.size + 1) y.a) := Lib.hid (fun y hy b o e => by
  rcases List.mem_append.1 hy with hy | hy
  · have := HNEW.out y hy b o e; have := ZF.out; omega
  · simp at hy; subst hy; have := HNX.out b o e; omega)
    refine hK.out _ _ ⟨T_h4.out, P_h4.out, F_h4.out⟩ (fun hHeld => ?_)
    clear hK K
    try simp only [Act.put, List.setIfInBounds_toArray, List.set_cons_zero, List.set_cons_succ]
    obtain ⟨A9, c9, hv9, hc9, hnew9, hgl9⟩ := W_h4.out.1.retB gF_len
    subst hv9
    have HC9 := Lib.hid hc9
    have HN9 := Lib.hid hnew9
    clear hc9 hgl9 hnew9
    refine wpAnyH_take (i := 9) (v := wv L A9 c9 (ys ++ [x]) A5 c5 X5 n5) (get_ops _ _ _ rfl) (by kernel_rfl) (by kernel_rfl) (by kernel_rfl) (fun _ _ _ h => h) (Or.inl ⟨by rfl, fun wS hSw => by (try dsimp only at hSw); go_simp⟩) hHeld ?_
    try simp only [Act.put, List.setIfInBounds_toArray, List.set_cons_zero, List.set_cons_succ]
    refine wpAnyH_ready (rs := [11]) (by kernel_rfl) (by simp) ?_
    refine (AllReadyH.cons (get_ops _ _ _ rfl) (fun K hK => ?_) AllReadyH.nil)
    have ZO := Z_h4
    go_simp
    refine (HPU.out x h4 Q_h4.out HXP.out).mono ?_
    rintro e h5 ⟨a8, c8, rfl, hpl8, hnew8, hb⟩
    have T_h5 : Hid (BK 28 h5 w.heap.size (wcs L A c xs A2 c2 X l)) := Lib.hid (T_h4.out.step hb)
    have R_h5 : Hid (BK 28 h5 (w.heap.size + 1 + 1) (wcs 0 none 0 [] none 0 [] 0)) := Lib.hid (R_h4.out.step hb)
    have K_h5 : Hid (BK 42 h5 (w.heap.size + 1 + 1 + 1) zeroPk) := Lib.hid (K_h4.out.step hb)
    have P_h5 : Hid (BK 26 h5 w4.heap.size [.slice A5 X5.length c5, .int .i64 n5]) := Lib.hid (P_h4.out.step hb)
    have F_h5 : Hid (BK 56 h5 w6.heap.size (gF x)) := Lib.hid (F_h4.out.step hb)
    have B_h5 : Hid (Below w.heap.size w h5) := Lib.hid (stepB B_h4.out hb)
    have I_h5 : Hid (S2.IL h5 h5.heap.size A5 X5) := Lib.hid (CL.step I_h4.out hb)
    have Q_h5 : Hid (PL h5 h5.heap.size x.a x.f.m.props) := Lib.hid (Q_h4.out.step hb)
    have Z_h5 : Hid (w6.heap.size < h5.heap.size) := Lib.hid (Nat.lt_of_lt_of_le Z_h4.out hb.size)
    have W_h5 : Hid (Its (w6.heap.size + 1) h5 (.slice A9 (ys ++ [x]).length c9) (ys ++ [x])) := Lib.hid (W_h4.out.step hb)
    clear T_h4 R_h4 K_h4 P_h4 F_h4 B_h4 I_h4 Q_h4 Z_h4 W_h4
    have U_h5 : Hid (PL h5 h5.heap.size a8 x.f.m.props) := Lib.hid (hpl8)
    have HN8 : Hid (NewL (w6.heap.size + 1) a8) := Lib.hid (fun b o e => by have := hnew8 b o e; have := ZO.out; omega)
    clear hpl8 hnew8 ZO
    clear hHeld hb
    go_wp2_with fail
    refine hK.out _ _ ⟨T_h5.out, P_h5.out, F_h5.out⟩ (fun hHeld => ?_)
    clear hK K
    try simp only [Act.put, List.setIfInBounds_toArray, List.set_cons_zero, List.set_cons_succ]
    refine wpAnyH_ready (rs := [12]) (by kernel_rfl) (by simp) ?_
    refine (AllReadyH.cons (get_ops _ _ _ rfl) (fun K hK => ?_) AllReadyH.nil)
    refine S2.wp_store_all 28 _ _ rfl rfl (w.heap.size + 1 + 1) (by go_simp) (wcs L A9 c9 (ys ++ [x]) A5 c5 X5 n5) (by first | rfl | go_simp) 28 (wcs 0 none 0 [] none 0 [] 0) R_h5.out winSize rfl (ones rfl) ?_
    intro h6 hM hP
    have R_h6 : Hid (BK 28 h6 (w.heap.size + 1 + 1) (wcs L A9 c9 (ys ++ [x]) A5 c5 X5 n5)) := Lib.hid (hM)
    have T_h6 : Hid (BK 28 h6 w.heap.size (wcs L A c xs A2 c2 X l)) := Lib.hid (hP.other T_h5.out (by have := ZP.out; have := ZF.out; omega))
    have K_h6 : Hid (BK 42 h6 (w.heap.size + 1 + 1 + 1) zeroPk) := Lib.hid (hP.other K_h5.out (by have := ZP.out; have := ZF.out; omega))
    have P_h6 : Hid (BK 26 h6 w4.heap.size [.slice A5 X5.length c5, .int .i64 n5]) := Lib.hid (hP.other P_h5.out (by have := ZP.out; have := ZF.out; omega))
    have F_h6 : Hid (BK 56 h6 w6.heap.size (gF x)) := Lib.hid (hP.other F_h5.out (by have := ZP.out; have := ZF.out; omega))
    have B_h6 : Hid (Below w.heap.size w h6) := Lib.hid (hP.below B_h5.out (by omega))
    have I_h6 : Hid (S2.IL h6 h6.heap.size A5 X5) := Lib.hid (ILput I_h5.out hP (fun hn b o e => by have := HN5.out b o e; omega))
    have Q_h6 : Hid (PL h6 h6.heap.size x.a x.f.m.props) := Lib.hid ((by rw [hP.size]; exact PL.put Q_h5.out hP (fun b o e => by have := HNX.out b o e; have := ZP.out; omega)))
    have Z_h6 : Hid (w6.heap.size < h6.heap.size) := Lib.hid ((by rw [hP.size]; exact Z_h5.out))
    have W_h6 : Hid (Its (w6.heap.size + 1) h6 (.slice A9 (ys ++ [x]).length c9) (ys ++ [x])) := Lib.hid (W_h5.out.put hP ⟨fun q n c e => by have := W_h5.out.1.lt q n c e; have := ZP.out; have := ZF.out; omega, fun y hy hn b o e => by have := HNW.out y hy b o e; have := ZP.out; have := ZF.out; omega⟩)
    have U_h6 : Hid (PL h6 h6.heap.size a8 x.f.m.props) := Lib.hid ((by rw [hP.size]; exact PL.put U_h5.out hP (fun b o e => by have := HN8.out b o e; have := ZP.out; have := ZF.out; omega)))
    clear T_h5 R_h5 K_h5 P_h5 F_h5 B_h5 I_h5 Q_h5 Z_h5 W_h5 U_h5
    clear hM hP hHeld
    refine hK.out _ _ ⟨T_h6.out, P_h6.out, F_h6.out⟩ (fun hHeld => ?_)
    clear hK K
    try simp only [Act.put, List.setIfInBounds_toArray, List.set_cons_zero, List.set_cons_succ]
    refine wpAnyH_ready (rs := [13]) (by kernel_rfl) (by simp) ?_
    refine (AllReadyH.cons (get_ops _ _ _ rfl) (fun K hK => ?_) AllReadyH.nil)
    refine S2.wp_store_all 42 _ _ rfl rfl (w.heap.size + 1 + 1 + 1) (by go_simp) (pkC (pubP x.f false) (pubA a8 c8)) (by first | rfl | go_simp) 42 zeroPk K_h6.out pktSize rfl (pkOnes _ _) ?_
    intro h7 hM hP
    have K_h7 : Hid (BK 42 h7 (w.heap.size + 1 + 1 + 1) (pkC (pubP x.f false) (pubA a8 c8))) := Lib.hid (hM)
    have T_h7 : Hid (BK 28 h7 w.heap.size (wcs L A c xs A2 c2 X l)) := Lib.hid (hP.other T_h6.out (by have := ZP.out; have := ZF.out; omega))
    have R_h7 : Hid (BK 28 h7 (w.heap.size + 1 + 1) (wcs L A9 c9 (ys ++ [x]) A5 c5 X5 n5)) := Lib.hid (hP.other R_h6.out (by have := ZP.out; have := ZF.out; omega))
    have P_h7 : Hid (BK 26 h7 w4.heap.size [.slice A5 X5.length c5, .int .i64 n5]) := Lib.hid (hP.other P_h6.out (by have := ZP.out; have := ZF.out; omega))
    have F_h7 : Hid (BK 56 h7 w6.heap.size (gF x)) := Lib.hid (hP.other F_h6.out (by have := ZP.out; have := ZF.out; omega))
    have B_h7 : Hid (Below w.heap.size w h7) := Lib.hid (hP.below B_h6.out (by omega))
    have I_h7 : Hid (S2.IL h7 h7.heap.size A5 X5) := Lib.hid (ILput I_h6.out hP (fun hn b o e => by have := HN5.out b o e; omega))
    have Q_h7 : Hid (PL h7 h7.heap.size x.a x.f.m.props) := Lib.hid ((by rw [hP.size]; exact PL.put Q_h6.out hP (fun b o e => by have := HNX.out b o e; have := ZP.out; omega)))
    have Z_h7 : Hid (w6.heap.size < h7.heap.size) := Lib.hid ((by rw [hP.size]; exact Z_h6.out))
    have W_h7 : Hid (Its (w6.heap.size + 1) h7 (.slice A9 (ys ++ [x]).length c9) (ys ++ [x])) := Lib.hid (W_h6.out.put hP ⟨fun q n c e => by have := W_h6.out.1.lt q n c e; have := ZP.out; have := ZF.out; omega, fun y hy hn b o e => by have := HNW.out y hy b o e; have := ZP.out; have := ZF.out; omega⟩)
    have U_h7 : Hid (PL h7 h7.heap.size a8 x.f.m.props) := Lib.hid ((by rw [hP.size]; exact PL.put U_h6.out hP (fun b o e => by have := HN8.out b o e; have := ZP.out; have := ZF.out; omega)))
    clear T_h6 R_h6 K_h6 P_h6 F_h6 B_h6 I_h6 Q_h6 Z_h6 W_h6 U_h6
    clear hM hP hHeld
    refine hK.out _ _ ⟨T_h7.out, P_h7.out, F_h7.out⟩ (fun hHeld => ?_)
    clear hK K
    try simp only [Act.put, List.setIfInBounds_toArray, List.set_cons_zero, List.set_cons_succ]
    refine wpAnyH_take (i := 14) (v := .int .i64 0) (get_ops _ _ _ rfl) (by kernel_rfl) (by kernel_rfl) (by kernel_rfl) (fun _ _ _ h => h) (Or.inl ⟨by rfl, fun wS hSw => by (try dsimp only at hSw); go_simp⟩) hHeld ?_
    try simp only [Act.put, List.setIfInBounds_toArray, List.set_cons_zero, List.set_cons_succ]
    refine wpAnyH_done (by kernel_rfl) ?_ _
    go_wp2_with fail
    rw [← HRR.out]
    obtain ⟨A9x, c9x, hv9x, _, hfi9⟩ := OwnG.ret gF_len W_h7.out.1
    simp only [Value.slice.injEq] at hv9x
    obtain ⟨rfl, _, rfl⟩ := hv9x
    have HMP : Hid ((ys ++ [x]).map FE.f = xs.map FE.f ++ [⟨n5, 1, m⟩]) := Lib.hid (by rw [List.map_append, HYS.out, List.map_cons, List.map_nil, HXM.out])
    rw [← HXM.out]
    exact bodyPost_ret (v := .tuple #[wv L A9 c9 (ys ++ [x]) A5 c5 X5 n5, pkV (pubP x.f false) (pubA a8 c8), .int .i64 0]) (res221 rfl _ _ (w.heap.size + 1 + 1) (w.heap.size + 1 + 1 + 1) 28 42 (wcs L A9 c9 (ys ++ [x]) A5 c5 X5 n5) (pkC (pubP x.f false) (pubA a8 c8)) _ _ _ rfl rfl rfl R_h7.out K_h7.out Tryz.underlying28 rfl winSize Tryz.underlying42 rfl pktSize) rfl ⟨A9, c9, ys ++ [x], A5, c5, a8, c8, rfl, by rw [HMP.out, HXM.out], ⟨⟨hfi9, W_h7.out.2⟩, HC9.out, I_h7.out, HC5.out⟩, ⟨(fun b o e => by have := HN9.out b o e; have := ZP.out; have := ZF.out; omega), (fun y hy b o e => by have := HNW.out y hy b o e; have := ZP.out; omega), fun _ b o e => by have := HN5.out b o e; omega⟩, U_h7.out, (fun b o e => by have := HN8.out b o e; have := ZP.out; have := ZF.out; omega), B_h7.out⟩
  · simp only [fV, gF]
    go_simp
    obtain ⟨vb, hvb⟩ : ∃ vb, vb = h1.heap.size := ⟨_, rfl⟩
    refine name_world (C := fun w9 => K _ w9) (h1.alloc (.cells (gF x).toArray 56)) ?_
    intro h2 hh2
    have hb : Below h1.heap.size h1 h2 := by rw [hh2]; exact S2.below_new _ _
    have hN : BK 56 h2 vb (gF x) := by rw [hh2, hvb]; exact BK.new _ _ _
    have T_h2 : Hid (BK 28 h2 w.heap.size (wcs L A c xs A2 c2 X l)) := Lib.hid (T_h1.out.step hb)
    have R_h2 : Hid (BK 28 h2 (w.heap.size + 1 + 1) (wcs 0 none 0 [] none 0 [] 0)) := Lib.hid (R_h1.out.step hb)
    have K_h2 : Hid (BK 42 h2 (w.heap.size + 1 + 1 + 1) zeroPk) := Lib.hid (K_h1.out.step hb)
    have P_h2 : Hid (BK 26 h2 w4.heap.size [.slice A5 X5.length c5, .int .i64 n5]) := Lib.hid (P_h1.out.step hb)
    have F_h2 : Hid (BK 56 h2 w6.heap.size (gF x)) := Lib.hid (F_h1.out.step hb)
    have B_h2 : Hid (Below w.heap.size w h2) := Lib.hid (stepB B_h1.out hb)
    have I_h2 : Hid (S2.IL h2 h2.heap.size A5 X5) := Lib.hid (CL.step I_h1.out hb)
    have Q_h2 : Hid (PL h2 h2.heap.size x.a x.f.m.props) := Lib.hid (Q_h1.out.step hb)
    have D_h2 : Hid (FI h2 h2.heap.size A xs) := Lib.hid (D_h1.out.step hb)
    have Z_h2 : Hid (w6.heap.size < h2.heap.size) := Lib.hid (Nat.lt_of_lt_of_le Z_h1.out hb.size)
    clear T_h1 R_h1 K_h1 P_h1 F_h1 B_h1 I_h1 Q_h1 D_h1 Z_h1
    have V_h2 := Lib.hid hN
    try rw [← hvb]
    clear hHeld hb hN hh2 hvb
    refine hK.out _ _ ⟨T_h2.out, P_h2.out, F_h2.out⟩ (fun hHeld => ?_)
    clear hK K
    try simp only [Act.put, List.setIfInBounds_toArray, List.set_cons_zero, List.set_cons_succ]
    refine wpAnyH_ready (rs := [4]) (by kernel_rfl) (by simp) ?_
    refine (AllReadyH.cons (get_ops _ _ _ rfl) (fun K hK => ?_) AllReadyH.nil)
    have ZO := Z_h2
    have VO : Hid (vb < h2.heap.size) := Lib.hid V_h2.out.lt
    have IO := I_h2
    have QO := Q_h2
    go_simp
    refine (HCI.out h2 D_h2.out).mono ?_
    rintro e h3 ⟨v2, ys, rfl, hys, hown, ⟨M0, hM0, hMg, hpl⟩, hb⟩
    have T_h3 : Hid (BK 28 h3 w.heap.size (wcs L A c xs A2 c2 X l)) := Lib.hid (T_h2.out.step hb)
    have R_h3 : Hid (BK 28 h3 (w.heap.size + 1 + 1) (wcs 0 none 0 [] none 0 [] 0)) := Lib.hid (R_h2.out.step hb)
    have K_h3 : Hid (BK 42 h3 (w.heap.size + 1 + 1 + 1) zeroPk) := Lib.hid (K_h2.out.step hb)
    have P_h3 : Hid (BK 26 h3 w4.heap.size [.slice A5 X5.length c5, .int .i64 n5]) := Lib.hid (P_h2.out.step hb)
    have F_h3 : Hid (BK 56 h3 w6.heap.size (gF x)) := Lib.hid (F_h2.out.step hb)
    have B_h3 : Hid (Below w.heap.size w h3) := Lib.hid (stepB B_h2.out hb)
    have I_h3 : Hid (S2.IL h3 h3.heap.size A5 X5) := Lib.hid (CL.step I_h2.out hb)
    have Q_h3 : Hid (PL h3 h3.heap.size x.a x.f.m.props) := Lib.hid (Q_h2.out.step hb)
    have D_h3 : Hid (FI h3 h3.heap.size A xs) := Lib.hid (D_h2.out.step hb)
    have Z_h3 : Hid (w6.heap.size < h3.heap.size) := Lib.hid (Nat.lt_of_lt_of_le Z_h2.out hb.size)
    have V_h3 : Hid (BK 56 h3 vb (gF x)) := Lib.hid (V_h2.out.step hb)
    clear T_h2 R_h2 K_h2 P_h2 F_h2 B_h2 I_h2 Q_h2 D_h2 Z_h2 V_h2
    clear D_h3
    have hits : Its (w6.heap.size + 1) h3 v2 ys := ⟨hown.weak ZO.out, fun y hy => (hpl y hy).1⟩
    have Y_h3 : Hid (Its (w6.heap.size + 1) h3 v2 ys) := Lib.hid (hits)
    have HYS := Lib.hid hys
    have HSELF : Hid (∀ q n c, v2 = .slice (some ⟨q, 0, none⟩) n c → ∀ y ∈ ys, Away q y.a y.f.m.props.length) := Lib.hid (fun q n c e y hy _ b o e2 => by have := hMg q n c e; have := (hpl y hy).2 b o e2; omega)
    have HNEW : Hid (∀ y ∈ ys, NewL (w6.heap.size + 1) y.a) := Lib.hid (fun y hy b o e2 => by have := (hpl y hy).2 b o e2; have := ZO.out; omega)
    have HOI : Hid (∀ b o, A5 = some ⟨b, o, none⟩ → 0 < X5.length → Off2 v2 b) := Lib.hid (fun b o e hn q n c e2 => by have := hown.lt q n c e2; have := S2.IL.lt IO.out b o e hn; omega)
    have HOQ : Hid (∀ b o, x.a = some ⟨b, o, none⟩ → 0 < x.f.m.props.length → Off2 v2 b) := Lib.hid (fun b o e hn q n c e2 => by have := hown.lt q n c e2; have := QO.out.lt hn b o e; omega)
    have HOV : Hid (∀ b, b < w6.heap.size + 1 → Off2 v2 b) := Lib.hid (fun b hb2 q n c e2 => by have := hown.lt q n c e2; have := ZO.out; omega)
    have HOVB : Hid (Off2 v2 vb) := Lib.hid (fun q n c e2 => by have := hown.lt q n c e2; have := VO.out; omega)
    clear hits hys hown hM0 hMg hpl ZO IO QO VO
    clear hHeld hb
    go_wp2_with fail
    refine hK.out _ _ ⟨T_h3.out, P_h3.out, F_h3.out⟩ (fun hHeld => ?_)
    clear hK K
    try simp only [Act.put, List.setIfInBounds_toArray, List.set_cons_zero, List.set_cons_succ]
    refine wpAnyH_ready (rs := [7]) (by kernel_rfl) (by simp) ?_
    refine (AllReadyH.cons (get_ops _ _ _ rfl) (fun K hK => ?_) AllReadyH.nil)
    rw [if_pos (by rfl)]
    refine oper_appF (.tmp 51) (.tmp 53) rfl (w6.heap.size + 1) v2 ys x vb (by go_simp) Y_h3.out.1 (by go_simp) V_h3.out Z_h3.out (by rw [sameLen HYS.out]; omega) ?_
    intro v3 h4 hown3 hgr
    have hoy := Y_h3.out
    have T_h4 : Hid (BK 28 h4 w.heap.size (wcs L A c xs A2 c2 X l)) := Lib.hid (BK.grown T_h3.out hoy.1 hgr (HOV.out _ (by have := ZP.out; have := ZF.out; omega)))
    have R_h4 : Hid (BK 28 h4 (w.heap.size + 1 + 1) (wcs 0 none 0 [] none 0 [] 0)) := Lib.hid (BK.grown R_h3.out hoy.1 hgr (HOV.out _ (by have := ZP.out; have := ZF.out; omega)))
    have K_h4 : Hid (BK 42 h4 (w.heap.size + 1 + 1 + 1) zeroPk) := Lib.hid (BK.grown K_h3.out hoy.1 hgr (HOV.out _ (by have := ZP.out; have := ZF.out; omega)))
    have P_h4 : Hid (BK 26 h4 w4.heap.size [.slice A5 X5.length c5, .int .i64 n5]) := Lib.hid (BK.grown P_h3.out hoy.1 hgr (HOV.out _ (by have := ZP.out; have := ZF.out; omega)))
    have F_h4 : Hid (BK 56 h4 w6.heap.size (gF x)) := Lib.hid (BK.grown F_h3.out hoy.1 hgr (HOV.out _ (by have := ZP.out; have := ZF.out; omega)))
    have B_h4 : Hid (Below w.heap.size w h4) := Lib.hid (Below.grown' B_h3.out hoy.1 hgr B_h3.out.size (by have := ZP.out; have := ZF.out; omega))
    have I_h4 : Hid (S2.IL h4 h4.heap.size A5 X5) := Lib.hid (IL.grown I_h3.out hoy.1 hgr HOI.out)
    have Q_h4 : Hid (PL h4 h4.heap.size x.a x.f.m.props) := Lib.hid (PL.grown Q_h3.out hoy.1 hgr HOQ.out)
    have Z_h4 : Hid (w6.heap.size < h4.heap.size) := Lib.hid (Nat.lt_of_lt_of_le Z_h3.out hgr.size)
    have W_h4 : Hid (Its (w6.heap.size + 1) h4 v3 (ys ++ [x])) := Lib.hid ⟨hown3, fun y hy => by
    rcases List.mem_append.1 hy with hy | hy
    · exact PL.grown (hoy.2 y hy) hoy.1 hgr (fun b o e hn q n c e2 => HSELF.out q n c e2 y hy hn b o e)
    · simp at hy; subst hy; exact Q_h4.out⟩
    clear hoy hown3 hgr hHeld T_h3 R_h3 K_h3 P_h3 F_h3 B_h3 I_h3 Q_h3 Z_h3 V_h3 Y_h3
    have HNW : Hid (∀ y ∈ ys ++ [x], NewL (w4.heap.size + 1) y.a) := Lib.hid (fun y hy b o e => by
  rcases List.mem_append.1 hy with hy | hy
  · have := HNEW.out y hy b o e; have := ZF.out; omega
  · simp at hy; subst hy; have := HNX.out b o e; omega)
    refine hK.out _ _ ⟨T_h4.out, P_h4.out, F_h4.out⟩ (fun hHeld => ?_)
    clear hK K
    try simp only [Act.put, List.setIfInBounds_toArray, List.set_cons_zero, List.set_cons_succ]
    obtain ⟨A9, c9, hv9, hc9, hnew9, hgl9⟩ := W_h4.out.1.retB gF_len
    subst hv9
    have HC9 := Lib.hid hc9
    have HN9 := Lib.hid hnew9
    clear hc9 hgl9 hnew9
    refine wpAnyH_take (i := 9) (v := wv L A9 c9 (ys ++ [x]) A5 c5 X5 n5) (get_ops _ _ _ rfl) (by kernel_rfl) (by kernel_rfl) (by kernel_rfl) (fun _ _ _ h => h) (Or.inl ⟨by rfl, fun wS hSw => by (try dsimp only at hSw); go_simp⟩) hHeld ?_
    try simp only [Act.put, List.setIfInBounds_toArray, List.set_cons_zero, List.set_cons_succ]
    refine wpAnyH_ready (rs := [11]) (by kernel_rfl) (by simp) ?_
    refine (AllReadyH.cons (get_ops _ _ _ rfl) (fun K hK => ?_) AllReadyH.nil)
    have ZO := Z_h4
    go_simp
    refine (HPU.out x h4 Q_h4.out HXP.out).mono ?_
    rintro e h5 ⟨a8, c8, rfl, hpl8, hnew8, hb⟩
    have T_h5 : Hid (BK 28 h5 w.heap.size (wcs L A c xs A2 c2 X l)) := Lib.hid (T_h4.out.step hb)
    have R_h5 : Hid (BK 28 h5 (w.heap.size + 1 + 1) (wcs 0 none 0 [] none 0 [] 0)) := Lib.hid (R_h4.out.step hb)
    have K_h5 : Hid (BK 42 h5 (w.heap.size + 1 + 1 + 1) zeroPk) := Lib.hid (K_h4.out.step hb)
    have P_h5 : Hid (BK 26 h5 w4.heap.size [.slice A5 X5.length c5, .int .i64 n5]) := Lib.hid (P_h4.out.step hb)
    have F_h5 : Hid (BK 56 h5 w6.heap.size (gF x)) := Lib.hid (F_h4.out.step hb)
    have B_h5 : Hid (Below w.heap.size w h5) := Lib.hid (stepB B_h4.out hb)
    have I_h5 : Hid (S2.IL h5 h5.heap.size A5 X5) := Lib.hid (CL.step I_h4.out hb)
    have Q_h5 : Hid (PL h5 h5.heap.size x.a x.f.m.props) := Lib.hid (Q_h4.out.step hb)
    have Z_h5 : Hid (w6.heap.size < h5.heap.size) := Lib.hid (Nat.lt_of_lt_of_le Z_h4.out hb.size)
    have W_h5 : Hid (Its (w6.heap.size + 1) h5 (.slice A9 (ys ++ [x]).length c9) (ys ++ [x])) := Lib.hid (W_h4.out.step hb)
    clear T_h4 R_h4 K_h4 P_h4 F_h4 B_h4 I_h4 Q_h4 Z_h4 W_h4
    have U_h5 : Hid (PL h5 h5.heap.size a8 x.f.m.props) := Lib.hid (hpl8)
    have HN8 : Hid (NewL (w6.heap.size + 1) a8) := Lib.hid (fun b o e => by have := hnew8 b o e; have := ZO.out; omega)
    clear hpl8 hnew8 ZO
    clear hHeld hb
    go_wp2_with fail
    refine hK.out _ _ ⟨T_h5.out, P_h5.out, F_h5.out⟩ (fun hHeld => ?_)
    clear hK K
    try simp only [Act.put, List.setIfInBounds_toArray, List.set_cons_zero, List.set_cons_succ]
    refine wpAnyH_ready (rs := [12]) (by kernel_rfl) (by simp) ?_
    refine (AllReadyH.cons (get_ops _ _ _ rfl) (fun K hK => ?_) AllReadyH.nil)
    refine S2.wp_store_all 28 _ _ rfl rfl (w.heap.size + 1 + 1) (by go_simp) (wcs L A9 c9 (ys ++ [x]) A5 c5 X5 n5) (by first | rfl | go_simp) 28 (wcs 0 none 0 [] none 0 [] 0) R_h5.out winSize rfl (ones rfl) ?_
    intro h6 hM hP
    have R_h6 : Hid (BK 28 h6 (w.heap.size + 1 + 1) (wcs L A9 c9 (ys ++ [x]) A5 c5 X5 n5)) := Lib.hid (hM)
    have T_h6 : Hid (BK 28 h6 w.heap.size (wcs L A c xs A2 c2 X l)) := Lib.hid (hP.other T_h5.out (by have := ZP.out; have := ZF.out; omega))
    have K_h6 : Hid (BK 42 h6 (w.heap.size + 1 + 1 + 1) zeroPk) := Lib.hid (hP.other K_h5.out (by have := ZP.out; have := ZF.out; omega))
    have P_h6 : Hid (BK 26 h6 w4.heap.size [.slice A5 X5.length c5, .int .i64 n5]) := Lib.hid (hP.other P_h5.out (by have := ZP.out; have := ZF.out; omega))
    have F_h6 : Hid (BK 56 h6 w6.heap.size (gF x)) := Lib.hid (hP.other F_h5.out (by have := ZP.out; have := ZF.out; omega))
    have B_h6 : Hid (Below w.heap.size w h6) := Lib.hid (hP.below B_h5.out (by omega))
    have I_h6 : Hid (S2.IL h6 h6.heap.size A5 X5) := Lib.hid (ILput I_h5.out hP (fun hn b o e => by have := HN5.out b o e; omega))
    have Q_h6 : Hid (PL h6 h6.heap.size x.a x.f.m.props) := Lib.hid ((by rw [hP.size]; exact PL.put Q_h5.out hP (fun b o e => by have := HNX.out b o e; have := ZP.out; omega)))
    have Z_h6 : Hid (w6.heap.size < h6.heap.size) := Lib.hid ((by rw [hP.size]; exact Z_h5.out))
    have W_h6 : Hid (Its (w6.heap.size + 1) h6 (.slice A9 (ys ++ [x]).length c9) (ys ++ [x])) := Lib.hid (W_h5.out.put hP ⟨fun q n c e => by have := W_h5.out.1.lt q n c e; have := ZP.out; have := ZF.out; omega, fun y hy hn b o e => by have := HNW.out y hy b o e; have := ZP.out; have := ZF.out; omega⟩)
    have U_h6 : Hid (PL h6 h6.heap.size a8 x.f.m.props) := Lib.hid ((by rw [hP.size]; exact PL.put U_h5.out hP (fun b o e => by have := HN8.out b o e; have := ZP.out; have := ZF.out; omega)))
    clear T_h5 R_h5 K_h5 P_h5 F_h5 B_h5 I_h5 Q_h5 Z_h5 W_h5 U_h5
    clear hM hP hHeld
    refine hK.out _ _ ⟨T_h6.out, P_h6.out, F_h6.out⟩ (fun hHeld => ?_)
    clear hK K
    try simp only [Act.put, List.setIfInBounds_toArray, List.set_cons_zero, List.set_cons_succ]
    refine wpAnyH_ready (rs := [13]) (by kernel_rfl) (by simp) ?_
    refine (AllReadyH.cons (get_ops _ _ _ rfl) (fun K hK => ?_) AllReadyH.nil)
    refine S2.wp_store_all 42 _ _ rfl rfl (w.heap.size + 1 + 1 + 1) (by go_simp) (pkC (pubP x.f false) (pubA a8 c8)) (by first | rfl | go_simp) 42 zeroPk K_h6.out pktSize rfl (pkOnes _ _) ?_
    intro h7 hM hP
    have K_h7 : Hid (BK 42 h7 (w.heap.size + 1 + 1 + 1) (pkC (pubP x.f false) (pubA a8 c8))) := Lib.hid (hM)
    have T_h7 : Hid (BK 28 h7 w.heap.size (wcs L A c xs A2 c2 X l)) := Lib.hid (hP.other T_h6.out (by have := ZP.out; have := ZF.out; omega))
    have R_h7 : Hid (BK 28 h7 (w.heap.size + 1 + 1) (wcs L A9 c9 (ys ++ [x]) A5 c5 X5 n5)) := Lib.hid (hP.other R_h6.out (by have := ZP.out; have := ZF.out; omega))
    have P_h7 : Hid (BK 26 h7 w4.heap.size [.slice A5 X5.length c5, .int .i64 n5]) := Lib.hid (hP.other P_h6.out (by have := ZP.out; have := ZF.out; omega))
    have F_h7 : Hid (BK 56 h7 w6.heap.size (gF x)) := Lib.hid (hP.other F_h6.out (by have := ZP.out; have := ZF.out; omega))
    have B_h7 : Hid (Below w.heap.size w h7) := Lib.hid (hP.below B_h6.out (by omega))
    have I_h7 : Hid (S2.IL h7 h7.heap.size A5 X5) := Lib.hid (ILput I_h6.out hP (fun hn b o e => by have := HN5.out b o e; omega))
    have Q_h7 : Hid (PL h7 h7.heap.size x.a x.f.m.props) := Lib.hid ((by rw [hP.size]; exact PL.put Q_h6.out hP (fun b o e => by have := HNX.out b o e; have := ZP.out; omega)))
    have Z_h7 : Hid (w6.heap.size < h7.heap.size) := Lib.hid ((by rw [hP.size]; exact Z_h6.out))
    have W_h7 : Hid (Its (w6.heap.size + 1) h7 (.slice A9 (ys ++ [x]).length c9) (ys ++ [x])) := Lib.hid (W_h6.out.put hP ⟨fun q n c e => by have := W_h6.out.1.lt q n c e; have := ZP.out; have := ZF.out; omega, fun y hy hn b o e => by have := HNW.out y hy b o e; have := ZP.out; have := ZF.out; omega⟩)
    have U_h7 : Hid (PL h7 h7.heap.size a8 x.f.m.props) := Lib.hid ((by rw [hP.size]; exact PL.put U_h6.out hP (fun b o e => by have := HN8.out b o e; have := ZP.out; have := ZF.out; omega)))
    clear T_h6 R_h6 K_h6 P_h6 F_h6 B_h6 I_h6 Q_h6 Z_h6 W_h6 U_h6
    clear hM hP hHeld
    refine hK.out _ _ ⟨T_h7.out, P_h7.out, F_h7.out⟩ (fun hHeld => ?_)
    clear hK K
    try simp only [Act.put, List.setIfInBounds_toArray, List.set_cons_zero, List.set_cons_succ]
    refine wpAnyH_take (i := 14) (v := .int .i64 0) (get_ops _ _ _ rfl) (by kernel_rfl) (by kernel_rfl) (by kernel_rfl) (fun _ _ _ h => h) (Or.inl ⟨by rfl, fun wS hSw => by (try dsimp only at hSw); go_simp⟩) hHeld ?_
    try simp only [Act.put, List.setIfInBounds_toArray, List.set_cons_zero, List.set_cons_succ]
    refine wpAnyH_done (by kernel_rfl) ?_ _
    go_wp2_with fail
    rw [← HRR.out]
    obtain ⟨A9x, c9x, hv9x, _, hfi9⟩ := OwnG.ret gF_len W_h7.out.1
    simp only [Value.slice.injEq] at hv9x
    obtain ⟨rfl, _, rfl⟩ := hv9x
    have HMP : Hid ((ys ++ [x]).map FE.f = xs.map FE.f ++ [⟨n5, 1, m⟩]) := Lib.hid (by rw [List.map_append, HYS.out, List.map_cons, List.map_nil, HXM.out])
    rw [← HXM.out]
    exact bodyPost_ret (v := .tuple #[wv L A9 c9 (ys ++ [x]) A5 c5 X5 n5, pkV (pubP x.f false) (pubA a8 c8), .int .i64 0]) (res221 rfl _ _ (w.heap.size + 1 + 1) (w.heap.size + 1 + 1 + 1) 28 42 (wcs L A9 c9 (ys ++ [x]) A5 c5 X5 n5) (pkC (pubP x.f false) (pubA a8 c8)) _ _ _ rfl rfl rfl R_h7.out K_h7.out Tryz.underlying28 rfl winSize Tryz.underlying42 rfl pktSize) rfl ⟨A9, c9, ys ++ [x], A5, c5, a8, c8, rfl, by rw [HMP.out, HXM.out], ⟨⟨hfi9, W_h7.out.2⟩, HC9.out, I_h7.out, HC5.out⟩, ⟨(fun b o e => by have := HN9.out b o e; have := ZP.out; have := ZF.out; omega), (fun y hy b o e => by have := HNW.out y hy b o e; have := ZP.out; omega), fun _ b o e => by have := HN5.out b o e; omega⟩, U_h7.out, (fun b o e => by have := HN8.out b o e; have := ZP.out; have := ZF.out; omega), B_h7.out⟩
end Go.Proofs.YtmcocepjdhpecabGreatDoor
