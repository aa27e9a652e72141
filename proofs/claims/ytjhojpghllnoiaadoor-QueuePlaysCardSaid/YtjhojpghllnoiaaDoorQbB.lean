/-
  CloneEntry of brokerref25; lists of entries of a call's own, grown in regions that draw their order; where insert of brokerref25 puts an entry, as plain data. Conditions: the lists read as data; few entries.
  Clone and insert of brokerref25: a copy of a queue, and one with an entry at its place, in memory of their own. Conditions: the lists read as data; few entries, with few properties.
-/
import Derived.Test.YtjhojpghllnoiaaDoorQaY
namespace Go.Proofs.YtjhojpghllnoiaaDoor
open Go.RowKit
open S2 (BK Put get_ops)

set_option maxRecDepth 20000 in
set_option maxHeartbeats 4000000 in
theorem rCloneEntry_any (x : En) (a : Option Addr) (c : Nat) (w : World) (hsl : PL w w.heap.size a x.m.props) (hn : x.m.props.length ≤ 4398046511104) :
    Calls Tryd.prog 47 #[enW x a c] w (RetE x w) := by
  unfold enW enV
  have HC := Lib.hid (fun w1 h => cloneP_any a c x.m.props w1 h (by omega))
  have HS := Lib.hid hsl
  clear hsl hn
  go_enter Tryd.func47, Tryd.ntmps47
  go_upto_region 1 with fail
  refine name_world (C := fun w1 => Code.wp _ _ _ _ w1) ((w.alloc (.cells (enX x a c).toArray 34)).alloc (.cells (enX En.zero none 0).toArray 34)) ?_
  intro w1 hw1
  have H0 := S2.two_laid (v1 := enX x a c) (v2 := enX En.zero none 0) hw1
  clear hw1
  obtain ⟨t1, t2, hs0, hB0⟩ := H0
  have T1 := Lib.hid t1
  have T2 := Lib.hid t2
  have HB := Lib.hid hB0
  have HZ := Lib.hid hs0
  have d8 := t1.cell 11 rfl
  clear t1 t2 hB0 hs0
  go_wp2_with fail
  refine (HC.out _ (HS.out.step HB.out)).mono ?_
  rintro e w2 ⟨v2, rfl, hown2, hb2⟩
  obtain ⟨a2, c2, hv2, _, hnew, hgl⟩ := hown2.retB gP_len
  subst hv2
  have U1 := Lib.hid (T1.out.step hb2)
  have U2 := Lib.hid (T2.out.step hb2)
  have HB2 := Lib.hid (stepB HB.out hb2)
  have HZ2 := Lib.hid hb2.size
  have HG := Lib.hid hgl
  have HN := Lib.hid hnew
  have f8 := U1.out.free 11
  have g8 := U1.out.cell 11 rfl
  have hlt := U1.out.lt
  clear hb2 hown2 hgl hnew T1 T2 HB HC d8
  go_upto_region 2 with fail
  refine name_world (C := fun w3 => Code.wp _ _ _ _ w3) (w2.setCell ⟨w.heap.size, 11, none⟩ (.slice a2 x.m.props.length c2)) ?_
  intro w3 hw3
  have U1' : Hid (BK 34 w3 w.heap.size (enX x a2 c2)) := Lib.hid (by rw [hw3]; exact U1.out.set 11 _)
  have U2' : Hid (BK 34 w3 (w.heap.size + 1) (enX En.zero none 0)) := Lib.hid (by rw [hw3]; exact U2.out.other (by show w.heap.size + 1 ≠ w.heap.size; omega) _)
  have HB3 : Hid (Below w.heap.size w w3) := Lib.hid (by rw [hw3]; exact HB2.out.setCell (p := ⟨w.heap.size, 11, none⟩) (Nat.le_refl _) _)
  have HZ3 : Hid (w3.heap.size = w2.heap.size) := Lib.hid (by rw [hw3]; simp)
  have HE3 : Hid (∀ p : Addr, w1.heap.size ≤ p.block → w3.cell? p = w2.cell? p) := Lib.hid (fun p hp => by rw [hw3]; exact S2.set_other _ _ _ _ _ (by have := HZ.out; omega))
  clear hw3 U1 U2 HB2 f8 g8 hlt
  go_wp2_with first
    | (refine wpList_load_v (by rfl) 34 (.tmp 1) rfl ⟨w.heap.size, 0, none⟩ rfl (enW x a2 c2) (S2.run_load_all U1'.out Tryd.underlying34 rfl enSize) ?_)
    | (refine S2.wpList_store_all (by rfl) 34 (.tmp 2) (.tmp 9) rfl rfl (w.heap.size + 1) rfl (enX x a2 c2) rfl 34 (enX En.zero none 0) U2'.out enSize rfl (enX_one _ _ _) ?_; intro w4 hM hP; have M4 := Lib.hid hM; have P4 := Lib.hid hP; clear hM hP)
  refine bodyPost_ret (v := enW x a2 c2) (S2.res_cell rfl _ _ (w.heap.size + 1) 34 (enX x a2 c2) _ rfl M4.out Tryd.underlying34 rfl enSize) rfl ⟨a2, c2, rfl, HG.out w4 (by rw [P4.out.size, HZ3.out]; exact Nat.le_refl _) (fun p hp => ?_), fun b o e => by have := HN.out b o e; have := HZ.out; omega, P4.out.below HB3.out (by omega)⟩
  rw [P4.out.cell (by have := HZ.out; omega), HE3.out p hp]

/-- a list of the call's own, from block B on and below block N -/
def OwL (B N : Nat) (w : World) (v : Value) (xs : List EE) : Prop := LstE B w v xs ∧ ∀ q, v.ownBlock = some q → q < N
theorem OwL.nil (B N : Nat) (w : World) : OwL B N w (.slice none 0 0) [] := ⟨Lst.nil, fun q e => by simp [Value.ownBlock] at e⟩
theorem OwL.step {B N : Nat} {w w' : World} {v : Value} {xs : List EE} (h : OwL B N w v xs) (hb : Below w.heap.size w w') : OwL B N w' v xs := ⟨h.1.step hb, h.2⟩
theorem OwL.put {B N g : Nat} {w w' : World} {v : Value} {xs : List EE} (h : OwL B N w v xs) (hp : Put g w w') (hg : g < B) : OwL B N w' v xs := ⟨lst_put h.1 hp hg, h.2⟩
theorem OwL.more {B N N' : Nat} {w : World} {v : Value} {xs : List EE} (h : OwL B N w v xs) (hN : N ≤ N') : OwL B N' w v xs := ⟨h.1, fun q e => Nat.lt_of_lt_of_le (h.2 q e) hN⟩
theorem OwL.one {B N : Nat} {w : World} {v : Value} {xs : List EE} (h : OwL B N w v xs) : v.oneCell' = true := lst_one h.1
section
variable {o : Oper} {a : Act} {Q : Exit → Act → World → Prop}
theorem oper_owl {B N Bp vb : Nat} {wr : World} {K : Act → World → Prop} (s x : Operand) (ho : o.op = .call { callee := .builtin .append, args := #[s, x], argTypes := #[24, 24] }) (v : Value) (xs : List EE) (y : EE) (hs : a.eval s = v) (hout : OwL B N wr v xs)
    (hx : a.eval x = .slice (some ⟨vb, 0, none⟩) 1 1) (hX : BK 34 wr vb (gE y)) (hp : PL wr wr.heap.size y.a (eps y)) (hnw : NewL Bp y.a) (hBN : B ≤ N) (hNp : N ≤ Bp) (hpw : Bp ≤ wr.heap.size) (hn : xs.length ≤ 100000)
    (h : ∀ v' w', OwL B w'.heap.size w' v' (xs ++ [y]) → Kpo B N Bp wr w' → wr.heap.size ≤ w'.heap.size → K (a.put o.dst v') w') : o.wp Tryd.prog a wr K Q := by
  obtain ⟨hl, hq⟩ := hout
  refine oper_appG (P := Tryd.prog) (by decide) s x 24 24 ho (.agg (enX En.zero none 0).toArray) 136 Tryd.underlying24 enInfo rfl (by decide) B v xs [y] _ hs hl.1 hx (src_blk gE_len gE_one Tryd.underlying24 hX) (by omega) (by simp; omega) ?_
  intro v' w' hown' hgr hoffs
  have hrow : ∀ k, v.ownBlock = some k → B ≤ k := fun k e => (own_lt hl.1 k e).1
  refine h v' w' ⟨⟨hown', fun z hz => ?_⟩, fun q e => (own_lt hown' q e).2⟩ ⟨fun hb hC => ?_, fun hM hMB => ?_, fun he => ?_⟩ hgr.size
  · have hp2 : PL wr wr.heap.size z.a (eps z) ∧ (∀ b o, z.a = some ⟨b, o, none⟩ → 0 < (eps z).length → v.ownBlock ≠ some b) ∧ NewL B z.a := by
      rcases List.mem_append.1 hz with hz | hz
      · refine ⟨(hl.2 z hz).1, fun b o e hn e2 => ?_, (hl.2 z hz).2.2⟩
        have h4 := (hl.2 z hz).2.1 b o e hn
        rcases hl.1.2 with ⟨e5, _⟩ | ⟨q, cap, cur, e5, _⟩
        · rw [e5] at e2
          simp [Value.ownBlock] at e2
        · rw [e5] at e2
          simp only [Value.ownBlock, Option.some.injEq] at e2
          exact h4 q _ _ e5 e2.symm
      · simp at hz
        subst hz
        exact ⟨hp, fun b o e hn e2 => by have := hnw b o e; have := hq b e2; omega, fun b o e => by have := hnw b o e; omega⟩
    obtain ⟨p1, p2, p3⟩ := hp2
    refine ⟨PL.grow p1 hgr (fun b o e hn => p2 b o e hn), fun b o e hn q n c ev => ?_, p3⟩
    have h5 := hoffs b (PL.lt p1 hn b o e) (p2 b o e hn)
    rw [ev] at h5
    simp only [Value.ownBlock, ne_eq, Option.some.injEq] at h5
    exact fun e9 => h5 e9.symm
  · exact Below.grow2 hb hgr (by omega) (fun k e => Nat.le_trans hC (hrow k e))
  · refine BK.grow hM hgr (fun e => ?_)
    have h1 := hrow _ e
    have h2 := hq _ e
    omega
  · exact ⟨LI.grow he.1 hgr (fun b o e e2 => by have h1 := he.2.1 b o e; have h2 := hq b e2; omega) (fun y hy b o e e2 => by have h1 := he.2.2 y hy b o e; have h2 := hq b e2; omega), he.2⟩
end
/-! ### Where an entry is put -/
def stepI (x : En) (r : Bool × List En) (y : En) : Bool × List En := if r.1 = false ∧ precR x y = true then (true, r.2 ++ [x] ++ [y]) else (r.1, r.2 ++ [y])
def insF (x : En) (l : List En) : Bool × List En := l.foldl (stepI x) (false, [])
def insE (x : En) (r : Bool × List En) : List En := if r.1 = true then r.2 else r.2 ++ [x]
theorem insF_succ (x : En) {l : List En} {j : Nat} {y : En} (h : l[j]? = some y) : insF x (l.take (j + 1)) = stepI x (insF x (l.take j)) y := by
  unfold insF
  rw [List.take_add_one, h, List.foldl_append]
  rfl
theorem insF_true (x : En) : ∀ (l acc : List En), l.foldl (stepI x) (true, acc) = (true, acc ++ l)
  | [], acc => by rw [List.append_nil]; rfl
  | y :: r, acc => by
    rw [List.foldl_cons]
    have e : stepI x (true, acc) y = (true, acc ++ [y]) := by unfold stepI; rw [if_neg (by simp)]
    rw [e, insF_true x r, List.append_assoc]
    rfl
theorem insF_false (x : En) : ∀ (l acc : List En), (∀ y ∈ l, y.k ≠ x.k) → insE x (l.foldl (stepI x) (false, acc)) = acc ++ insQ l x
  | [], acc, _ => by unfold insE; rfl
  | y :: r, acc, h => by
    rw [List.foldl_cons]
    have hk := h y List.mem_cons_self
    have ha : precR y x = !precR x y := precR_anti (fun e => hk e.symm)
    by_cases hp : precR x y = true
    · have e : stepI x (false, acc) y = (true, acc ++ [x] ++ [y]) := by unfold stepI; rw [if_pos ⟨rfl, hp⟩]
      rw [e, insF_true]
      unfold insE insQ
      rw [if_pos rfl, posQ_cons, if_neg (by rw [ha, hp]; decide)]
      simp
    · have e : stepI x (false, acc) y = (false, acc ++ [y]) := by unfold stepI; rw [if_neg (fun h => hp h.2)]
      rw [e, insF_false x r _ (fun z hz => h z (List.mem_cons_of_mem _ hz))]
      have hq : precR y x = true := by rw [ha]; simp [hp]
      unfold insQ
      rw [posQ_cons, if_pos hq]
      simp
theorem insF_ins {x : En} {l : List En} (h : ∀ y ∈ l, y.k ≠ x.k) : insE x (insF x l) = insQ l x := by
  have := insF_false x l [] h
  rwa [List.nil_append] at this
end Go.Proofs.YtjhojpghllnoiaaDoor
namespace Go.Proofs.YtjhojpghllnoiaaDoor
open Go.RowKit
open S2 (BK Put get_ops)

/-- a queue that a call answers -/
def RetI (s : Sp) (n : Int) (L : List En) (W : World) (E : Ending) (w' : World) : Prop := ∃ A c ys, E = .returned (quV s n (.slice A ys.length c)) ∧ ys.map EE.x = L ∧ ys.length ≤ c ∧ LstE W.heap.size w' (.slice A ys.length c) ys ∧ Below W.heap.size W w'
theorem lstE_len {B : Nat} {w : World} {A : Option Addr} {n c : Nat} {xs : List EE} (h : LstE B w (.slice A n c) xs) : xs.length ≤ c := by
  obtain ⟨A2, c2, e, hc, _⟩ := h.ret gE_len
  simp only [Value.slice.injEq] at e
  omega

set_option maxRecDepth 20000 in
set_option maxHeartbeats 16000000 in
theorem rClone_any (s : Sp) (n : Int) (A : Option Addr) (c : Nat) (l : List EE) (w : World) (hsl : EI w w.heap.size A l) (hn : l.length ≤ 100000) (hp : ∀ y ∈ l, y.x.m.props.length ≤ 4398046511104) :
    Calls Tryd.prog 46 #[quV s n (.slice A l.length c)] w (RetI s n (l.map EE.x) w) := by
  have HCE := Lib.hid (fun (y : EE) w1 h1 h2 => rCloneEntry_any y.x y.a y.c w1 h1 h2)
  have HS := Lib.hid hsl
  have HPP := Lib.hid hp
  have HL := Lib.hid hn
  clear hsl hp hn
  unfold quV
  unfold RetE enW enV at HCE
  go_enter Tryd.func46, Tryd.ntmps46
  go_upto_region 1 with fail
  refine name_world (C := fun w1 => Code.wp _ _ _ _ w1) ((w.alloc (.cells (quC s n (.slice A l.length c)).toArray 26)).alloc (.cells (quC Sp.zero 0 (.slice none 0 0)).toArray 26)) ?_
  intro w1 hw1
  have hb1 : Below w.heap.size w w1 := by rw [hw1]; exact stepB (S2.below_new w _) (S2.below_new _ _)
  have Q_w1 : Hid (BK 26 w1 w.heap.size (quC s n (.slice A l.length c))) := Lib.hid (by rw [hw1]; exact BK.alloc (BK.new w _ _) _)
  have R_w1 : Hid (BK 26 w1 (w.heap.size + 1) (quC Sp.zero 0 (.slice none 0 0))) := Lib.hid (by rw [hw1]; exact bk_new1 w _ _ _)
  have B_w1 := Lib.hid hb1
  clear hw1 hb1
  obtain ⟨g2, hg2⟩ : ∃ g, g = w.heap.size + 1 := ⟨_, rfl⟩
  obtain ⟨g1, hg1⟩ : ∃ g, g = w.heap.size := ⟨_, rfl⟩
  have HG12 : Hid (w.heap.size ≤ g1 ∧ g1 < g2) := Lib.hid (by omega)
  rw [← hg2] at R_w1
  try rw [← hg2]
  clear hg2
  rw [← hg1] at Q_w1
  try rw [← hg1]
  clear hg1
  have HRW : Hid (g2 < w1.heap.size) := Lib.hid R_w1.out.lt
  have HB5 : Hid (w.heap.size ≤ w1.heap.size) := Lib.hid B_w1.out.size
  go_upto_region 2 with first
    | (refine wpList_load_v (by rfl) 26 (.tmp 1) rfl ⟨g1, 0, none⟩ rfl (.agg (quC s n (.slice A l.length c)).toArray) (load_qu Q_w1.out) ?_)
    | (refine S2.wpList_store_all (by rfl) 26 (.tmp 3) (.tmp 6) rfl rfl (w1.heap.size) rfl (quC s n (.slice A l.length c)) rfl 26 _ (BK.new w1 _ _) quSize rfl (ones rfl) ?_; intro y1 hM hP; have hb : Below w1.heap.size w1 y1 := hP.below (S2.below_new w1 _) (Nat.le_refl _); have B_y1 : Hid (Below w.heap.size w y1) := Lib.hid (stepB B_w1.out hb); have Q_y1 : Hid (BK 26 y1 g1 (quC s n (.slice A l.length c))) := Lib.hid (Q_w1.out.step hb); have R_y1 : Hid (BK 26 y1 g2 (quC Sp.zero 0 (.slice none 0 0))) := Lib.hid (R_w1.out.step hb); have T_y1 : Hid (BK 26 y1 (w1.heap.size) (quC s n (.slice A l.length c))) := Lib.hid hM; clear hM hP hb B_w1 Q_w1 R_w1)
  obtain ⟨g5, hg5⟩ : ∃ b, b = w1.heap.size := ⟨_, rfl⟩
  have HRS : Hid (g2 < g5 ∧ w.heap.size ≤ g5) := Lib.hid (by rw [hg5]; have h1 := HRW.out; have h2 := HB5.out; exact ⟨by omega, h2⟩)
  rw [← hg5] at T_y1
  try rw [← hg5]
  clear hg5 HB5 HRW
  go_upto_region 3 with first
    | (refine wpList_store_in (by rfl) 24 (.tmp 7) (.const (.slice none 0 0)) rfl rfl g5 6 1 (by first | rfl | go_simp) (.slice none 0 0) rfl 26 (quC s n (.slice A l.length c)) [.slice none 0 0] T_y1.out rfl rfl (by kernel_rfl) (by show 6 + 1 ≤ 7; decide) (ones rfl) ?_; intro y2 hM hP; have T_y2 : Hid (BK 26 y2 g5 (quC s n (.slice none 0 0))) := Lib.hid hM; have B_y2 : Hid (Below w.heap.size w y2) := Lib.hid (hP.below B_y1.out HRS.out.2); have Q_y2 : Hid (BK 26 y2 g1 (quC s n (.slice A l.length c))) := Lib.hid (hP.other Q_y1.out (by have h1 := HRS.out; have h2 := HG12.out; omega)); have R_y2 : Hid (BK 26 y2 g2 (quC Sp.zero 0 (.slice none 0 0))) := Lib.hid (hP.other R_y1.out (by have h1 := HRS.out; have h2 := HG12.out; omega)); clear hM hP B_y1 Q_y1 R_y1 T_y1)
  obtain ⟨B0, hB0⟩ : ∃ b, b = y2.heap.size := ⟨_, rfl⟩
  have HG5 : Hid (g5 < B0) := Lib.hid (by rw [hB0]; exact T_y2.out.lt)
  have HWB : Hid (w.heap.size ≤ B0) := Lib.hid (by rw [hB0]; exact B_y2.out.size)
  have HB0 : Hid (B0 ≤ y2.heap.size) := Lib.hid (by rw [hB0]; exact Nat.le_refl _)
  have HW5 : Hid (w.heap.size ≤ g5) := Lib.hid HRS.out.2
  have HG1B : Hid (g1 < B0 ∧ g2 < B0) := Lib.hid (by have h1 := HG12.out; have h2 := HRS.out; have h3 := HG5.out; omega)
  clear hB0
  have d6 := Q_y2.out.cell 6 rfl
  go_wp2_with fail
  clear d6
  go_loopg [11] l.length (fun g v wr => ∃ (j : Nat) (A5 : Option Addr) (c5 : Nat) (ys : List EE), j + g = l.length ∧ v = .int .i64 j ∧ BK 26 wr g5 (quC s n (.slice A5 ys.length c5)) ∧ OwL B0 wr.heap.size wr (.slice A5 ys.length c5) ys ∧ ys.map EE.x = (l.map EE.x).take j ∧ BK 26 wr g2 (quC Sp.zero 0 (.slice none 0 0)) ∧ Below w.heap.size w wr ∧ B0 ≤ wr.heap.size)
  case atStart => exact ⟨0, none, 0, [], by omega, rfl, T_y2.out, OwL.nil _ _ _, rfl, R_y2.out, B_y2.out, HB0.out⟩
  case round =>
    clear B_y2 Q_y2 R_y2 T_y2
    obtain ⟨j, A5, c5, ys, hjg, rfl, ht, hu, hys, hr, hbb, hzz⟩ := hrel
    have T_wr := Lib.hid ht
    have U_wr := Lib.hid hu
    have R_wr := Lib.hid hr
    have B_wr := Lib.hid hbb
    have HZZ := Lib.hid hzz
    have HJ := Lib.hid hjg
    have HYS := Lib.hid hys
    clear ht hu hr hbb hzz hys
    cases gk with
    | zero =>
      obtain rfl : j = l.length := by omega
      clear hjg
      go_wp2_with first
        | (refine wpList_load_v (by rfl) 26 (.tmp 3) rfl ⟨g5, 0, none⟩ rfl (.agg (quC s n (.slice A5 ys.length c5)).toArray) (load_qu T_wr.out) ?_)
        | (refine S2.wpList_store_all (by rfl) 26 (.tmp 2) (.tmp 23) rfl rfl g2 rfl (quC s n (.slice A5 ys.length c5)) rfl 26 (quC Sp.zero 0 (.slice none 0 0)) R_wr.out quSize rfl (quC_one _ rfl) ?_; intro we hM hP; have ME := Lib.hid hM; have PE := Lib.hid hP; clear hM hP)
      exact bodyPost_ret (v := quV s n (.slice A5 ys.length c5)) (S2.res_cell rfl _ _ g2 26 (quC s n (.slice A5 ys.length c5)) _ rfl ME.out Tryd.underlying26 rfl quSize) rfl ⟨A5, c5, ys, rfl, by rw [HYS.out, List.take_of_length_le (by simp)], lstE_len U_wr.out.1, lst_weak (lst_put U_wr.out.1 PE.out HG1B.out.2) HWB.out, PE.out.below B_wr.out (by have := HG12.out; omega)⟩
    | succ g =>
      have hlt : j < l.length := by omega
      have e3 : decide ((j : Int) < (l.length : Int)) = true := decide_eq_true (by omega)
      obtain ⟨y, hy⟩ : ∃ y, l[j]? = some y := ⟨_, List.getElem?_eq_getElem hlt⟩
      have HY1 : Hid ((l.map EE.x)[j]? = some y.x) := Lib.hid (by rw [List.getElem?_map, hy]; rfl)
      obtain ⟨b, o, hA3, hbB, hcl, hpl⟩ := (HS.out.step B_wr.out).at_ hy
      have HLD := Lib.hid (load_ent hcl)
      unfold enW enV at HLD
      have HYP : Hid (y.x.m.props.length ≤ 4398046511104) := Lib.hid (HPP.out y (List.mem_of_getElem? hy))
      have HYPL : Hid (∀ w', Below w.heap.size w w' → PL w' w'.heap.size y.a y.x.m.props) := Lib.hid (fun w' h' => (HS.out.step h').2 y (List.mem_of_getElem? hy))
      subst hA3
      have j1 : (0 : Int) ≤ (j : Int) := by omega
      have j2 : (j : Int) < (l.length : Int) := by omega
      have hlk : j ≤ 1000000 := by have := HL.out; omega
      clear hcl hpl hbB hy hjg
      obtain ⟨N0, hN0⟩ : ∃ k, k = wr.heap.size := ⟨_, rfl⟩
      have HBN : Hid (B0 ≤ N0) := Lib.hid (by rw [hN0]; exact HZZ.out)
      have HZ0 : Hid (N0 ≤ wr.heap.size) := Lib.hid (by rw [hN0]; exact Nat.le_refl _)
      rw [← hN0] at U_wr
      have Z_wr : Hid (N0 ≤ wr.heap.size) := Lib.hid (by rw [hN0]; exact Nat.le_refl _)
      have HLN : Hid (ys.length ≤ 100000) := Lib.hid (by have h1 := congrArg List.length HYS.out; rw [List.length_map, List.length_take, List.length_map] at h1; have h2 := HL.out; omega)
      clear hN0
      go_upto_region 6 with first
        | (refine wpList_load_v (by rfl) 34 _ rfl ⟨b, o + j * 12, none⟩ (by simp [Act.eval, Act.put]) _ HLD.out ?_)
        | (refine S2.wpList_store_all (by rfl) 34 (.tmp 5) (.tmp 14) rfl rfl (wr.heap.size) rfl (gE y) rfl 34 (enX En.zero none 0) (BK.new wr _ _) enSize rfl (ones rfl) ?_; intro y3 hM hP; have hb : Below wr.heap.size wr y3 := hP.below (S2.below_new wr _) (Nat.le_refl _); have T_y3 : Hid (BK 26 y3 g5 (quC s n (.slice A5 ys.length c5))) := Lib.hid (T_wr.out.step hb); have U_y3 : Hid (OwL B0 N0 y3 (.slice A5 ys.length c5) ys) := Lib.hid (OwL.step U_wr.out hb); have R_y3 : Hid (BK 26 y3 g2 (quC Sp.zero 0 (.slice none 0 0))) := Lib.hid (R_wr.out.step hb); have B_y3 : Hid (Below w.heap.size w y3) := Lib.hid (stepB B_wr.out hb); have Z_y3 : Hid (N0 ≤ y3.heap.size) := Lib.hid (Nat.le_trans Z_wr.out hb.size); have V_y3 : Hid (BK 34 y3 (wr.heap.size) (gE y)) := Lib.hid hM; clear hM hP hb T_wr U_wr R_wr B_wr Z_wr)
      obtain ⟨gx, hgx⟩ : ∃ b, b = wr.heap.size := ⟨_, rfl⟩
      have HGX : Hid (N0 ≤ gx) := Lib.hid (by rw [hgx]; exact HZ0.out)
      rw [← hgx] at V_y3
      try rw [← hgx]
      clear hgx HLD e3 j1 j2 hlk hlt
      have C_y3 : Hid (Below y3.heap.size y3 y3) := Lib.hid (Below.refl _ _)
      have HZW6 : Hid (N0 ≤ y3.heap.size) := Lib.hid Z_y3.out
      clear Z_y3
      obtain ⟨y4, hy4⟩ : ∃ y4, y4 = World.drew y3 := ⟨_, rfl⟩
      have hbD : Below y3.heap.size y3 y4 := by rw [hy4]; exact (Below.refl _ _).drew
      have T_y4 : Hid (BK 26 y4 g5 (quC s n (.slice A5 ys.length c5))) := Lib.hid (T_y3.out.step hbD)
      have U_y4 : Hid (OwL B0 N0 y4 (.slice A5 ys.length c5) ys) := Lib.hid (OwL.step U_y3.out hbD)
      have R_y4 : Hid (BK 26 y4 g2 (quC Sp.zero 0 (.slice none 0 0))) := Lib.hid (R_y3.out.step hbD)
      have B_y4 : Hid (Below w.heap.size w y4) := Lib.hid (stepB B_y3.out hbD)
      have V_y4 : Hid (BK 34 y4 gx (gE y)) := Lib.hid (V_y3.out.step hbD)
      have C_y4 : Hid (Below y3.heap.size y3 y4) := Lib.hid (stepB C_y3.out hbD)
      clear T_y3 U_y3 R_y3 B_y3 V_y3 C_y3
      have hbd : (fun w' => BK 34 w' gx (gE y)) (World.drew y3) := by rw [← hy4]; exact V_y4.out
      have hSD : (fun w' => BK 34 w' gx (gE y)) y4 := V_y4.out
      have HWD := Lib.hid hy4
      clear hy4 hbD
      refine wp_region_held_drew (S := fun w' => BK 34 w' gx (gE y)) (by kernel_rfl) hbd (fun hHeld => ?_)
      rw [← HWD.out]
      clear hHeld
      have hHeld := hSD
      clear hSD hbd HWD
      refine wpAnyH_take (i := 0) (v := (.pointer (some ⟨g5, 6, none⟩))) (get_ops _ _ _ rfl) (by kernel_rfl) (by kernel_rfl) (by kernel_rfl) (fun _ _ _ h => h) (Or.inl ⟨by rfl, fun wS hSw => by (try dsimp only at hSw); go_simp⟩) hHeld ?_
      try simp only [Act.put, List.setIfInBounds_toArray, List.set_cons_zero, List.set_cons_succ]
      refine wpAnyH_take (i := 2) (v := (.agg (gE y).toArray)) (get_ops _ _ _ rfl) (by kernel_rfl) (by kernel_rfl) (by kernel_rfl) (fun _ _ _ h => h) (Or.inl ⟨by rfl, fun wS hSw => by (try dsimp only at hSw); exact exec_load 34 _ rfl ⟨gx, 0, none⟩ (by go_simp) _ (load_en0 hSw)⟩) hHeld ?_
      try simp only [Act.put, List.setIfInBounds_toArray, List.set_cons_zero, List.set_cons_succ]
      refine wpAnyH_ready (rs := [1, 3]) (by kernel_rfl) (by simp) ?_
      refine (AllReadyH.cons (get_ops _ _ _ rfl) (fun K hK => ?_) (AllReadyH.cons (get_ops _ _ _ rfl) (fun K hK => ?_) AllReadyH.nil))
      · refine wp_load2 24 _ rfl ⟨g5, 6, none⟩ (by first | rfl | go_simp) (.slice A5 ys.length c5) (by have cS := T_y4.out.cell 6 rfl; go_simp) ?_
        clear hHeld
        refine hK.out _ _ V_y4.out (fun hHeld => ?_)
        clear hK K
        try simp only [Act.put, List.setIfInBounds_toArray, List.set_cons_zero, List.set_cons_succ]
        refine wpAnyH_ready (rs := [3]) (by kernel_rfl) (by simp) ?_
        refine (AllReadyH.cons (get_ops _ _ _ rfl) (fun K hK => ?_) AllReadyH.nil)
        have HZ6 : Hid (N0 ≤ y4.heap.size) := Lib.hid (Nat.le_trans HZW6.out C_y4.out.size)
        go_simp
        refine (HCE.out y y4 (HYPL.out _ B_y4.out) HYP.out).mono ?_
        rintro e y5 ⟨a6, ac6, rfl, hpl, hnl, hb⟩
        have T_y5 : Hid (BK 26 y5 g5 (quC s n (.slice A5 ys.length c5))) := Lib.hid (T_y4.out.step hb)
        have U_y5 : Hid (OwL B0 N0 y5 (.slice A5 ys.length c5) ys) := Lib.hid (OwL.step U_y4.out hb)
        have R_y5 : Hid (BK 26 y5 g2 (quC Sp.zero 0 (.slice none 0 0))) := Lib.hid (R_y4.out.step hb)
        have B_y5 : Hid (Below w.heap.size w y5) := Lib.hid (stepB B_y4.out hb)
        have V_y5 : Hid (BK 34 y5 gx (gE y)) := Lib.hid (V_y4.out.step hb)
        have C_y5 : Hid (Below y3.heap.size y3 y5) := Lib.hid (stepB C_y4.out hb)
        clear T_y4 U_y4 R_y4 B_y4 V_y4 C_y4
        have P_y5 : Hid (PN y5 y4.heap.size a6 y.x.m.props) := Lib.hid ⟨hpl, hnl⟩
        have Y_y5 : Hid (y4.heap.size ≤ y5.heap.size) := Lib.hid hb.size
        clear hpl hnl
        clear hHeld hb
        go_wp2_with fail
        refine hK.out _ _ V_y5.out (fun hHeld => ?_)
        clear hK K
        try simp only [Act.put, List.setIfInBounds_toArray, List.set_cons_zero, List.set_cons_succ]
        refine wpAnyH_ready (rs := [4]) (by kernel_rfl) (by simp) ?_
        refine (AllReadyH.cons (get_ops _ _ _ rfl) (fun K hK => ?_) AllReadyH.nil)
        go_simp
        obtain ⟨vb6, hvb⟩ : ∃ n, n = y5.heap.size := ⟨_, rfl⟩
        refine name_world (C := fun w9 => K _ w9) (y5.alloc (.cells (gE (⟨y.x, a6, ac6⟩ : EE)).toArray 34)) ?_
        intro y6 hy6
        have hb : Below y5.heap.size y5 y6 := by rw [hy6]; exact S2.below_new _ _
        have hN : BK 34 y6 vb6 (gE (⟨y.x, a6, ac6⟩ : EE)) := by rw [hy6, hvb]; exact BK.new _ _ _
        have T_y6 : Hid (BK 26 y6 g5 (quC s n (.slice A5 ys.length c5))) := Lib.hid (T_y5.out.step hb)
        have U_y6 : Hid (OwL B0 N0 y6 (.slice A5 ys.length c5) ys) := Lib.hid (OwL.step U_y5.out hb)
        have R_y6 : Hid (BK 26 y6 g2 (quC Sp.zero 0 (.slice none 0 0))) := Lib.hid (R_y5.out.step hb)
        have B_y6 : Hid (Below w.heap.size w y6) := Lib.hid (stepB B_y5.out hb)
        have V_y6 : Hid (BK 34 y6 gx (gE y)) := Lib.hid (V_y5.out.step hb)
        have C_y6 : Hid (Below y3.heap.size y3 y6) := Lib.hid (stepB C_y5.out hb)
        have P_y6 : Hid (PN y6 y4.heap.size a6 y.x.m.props) := Lib.hid (PN.step P_y5.out hb)
        have Y_y6 : Hid (y4.heap.size ≤ y6.heap.size) := Lib.hid (Nat.le_trans Y_y5.out hb.size)
        clear T_y5 U_y5 R_y5 B_y5 V_y5 C_y5 P_y5 Y_y5
        have X_y6 := Lib.hid hN
        try rw [← hvb]
        clear hHeld hb hN hy6 hvb
        refine hK.out _ _ V_y6.out (fun hHeld => ?_)
        clear hK K
        try simp only [Act.put, List.setIfInBounds_toArray, List.set_cons_zero, List.set_cons_succ]
        refine wpAnyH_ready (rs := [5]) (by kernel_rfl) (by simp) ?_
        refine (AllReadyH.cons (get_ops _ _ _ rfl) (fun K hK => ?_) AllReadyH.nil)
        have HW6 : Hid (y4.heap.size ≤ y6.heap.size) := Lib.hid Y_y6.out
        refine oper_owl (B := B0) (N := N0) (Bp := y4.heap.size) _ _ rfl (.slice A5 ys.length c5) ys (⟨y.x, a6, ac6⟩ : EE) (by go_simp) U_y6.out (by go_simp) X_y6.out P_y6.out.1 P_y6.out.2 HBN.out HZ6.out HW6.out (HLN.out) ?_
        intro v6 y7 hO hK9 hsz9
        obtain ⟨A6, c6, rfl, hc6, hen6⟩ := LN.of gE_len hO.1
        have T_y7 : Hid (BK 26 y7 g5 (quC s n (.slice A5 ys.length c5))) := Lib.hid (hK9.bk T_y6.out (Or.inl HG5.out))
        have R_y7 : Hid (BK 26 y7 g2 (quC Sp.zero 0 (.slice none 0 0))) := Lib.hid (hK9.bk R_y6.out (Or.inl HG1B.out.2))
        have B_y7 : Hid (Below w.heap.size w y7) := Lib.hid (hK9.below B_y6.out HWB.out)
        have V_y7 : Hid (BK 34 y7 gx (gE y)) := Lib.hid (hK9.bk V_y6.out (Or.inr HGX.out))
        have U_y7 : Hid (OwL B0 y7.heap.size y7 (.slice A6 (ys ++ [(⟨y.x, a6, ac6⟩ : EE)]).length c6) (ys ++ [(⟨y.x, a6, ac6⟩ : EE)])) := Lib.hid hO
        have Z_y7 : Hid (N0 ≤ y7.heap.size) := Lib.hid (Nat.le_trans (Nat.le_trans HZ6.out HW6.out) hsz9)
        have HC6 := Lib.hid hc6
        have HSZ9_6 := Lib.hid hsz9
        have S_y7 : Hid (y7.heap.size ≤ y7.heap.size) := Lib.hid (Nat.le_refl _)
        clear hO hK9 hsz9 hc6 hen6 hHeld T_y6 U_y6 R_y6 B_y6 V_y6 C_y6 P_y6 Y_y6 X_y6
        refine hK.out _ _ V_y7.out (fun hHeld => ?_)
        clear hK K
        try simp only [Act.put, List.setIfInBounds_toArray, List.set_cons_zero, List.set_cons_succ]
        refine wpAnyH_take (i := 6) (v := (.pointer (some ⟨g5, 6, none⟩))) (get_ops _ _ _ rfl) (by kernel_rfl) (by kernel_rfl) (by kernel_rfl) (fun _ _ _ h => h) (Or.inl ⟨by rfl, fun wS hSw => by (try dsimp only at hSw); go_simp⟩) hHeld ?_
        try simp only [Act.put, List.setIfInBounds_toArray, List.set_cons_zero, List.set_cons_succ]
        refine wpAnyH_ready (rs := [7]) (by kernel_rfl) (by simp) ?_
        refine (AllReadyH.cons (get_ops _ _ _ rfl) (fun K hK => ?_) AllReadyH.nil)
        refine wp_store 24 _ _ rfl rfl ⟨g5, 6, none⟩ (by go_simp) (.slice A6 (ys ++ [(⟨y.x, a6, ac6⟩ : EE)]).length c6) (by first | rfl | go_simp) _ (run_store_part y7 g5 6 1 26 24 (quC s n (.slice A5 ys.length c5)) [(.slice A6 (ys ++ [(⟨y.x, a6, ac6⟩ : EE)]).length c6)] _ rfl rfl (by kernel_rfl) T_y7.out (by show 6 + 1 ≤ 7; decide) (ones rfl)) ?_
        have hM : BK 26 (y7.setRow g5 (putC (quC s n (.slice A5 ys.length c5)) 6 [(.slice A6 (ys ++ [(⟨y.x, a6, ac6⟩ : EE)]).length c6)]).toArray) g5 (quC s n (.slice A6 (ys ++ [(⟨y.x, a6, ac6⟩ : EE)]).length c6)) := MT.put T_y7.out 6 [(.slice A6 (ys ++ [(⟨y.x, a6, ac6⟩ : EE)]).length c6)]
        have hP := S2.put_row y7 g5 (putC (quC s n (.slice A5 ys.length c5)) 6 [(.slice A6 (ys ++ [(⟨y.x, a6, ac6⟩ : EE)]).length c6)]).toArray
        refine name_world (C := fun w9 => K _ w9) _ ?_
        intro y8 hy8
        rw [← hy8] at hM hP
        clear hy8
        have T_y8 : Hid (BK 26 y8 g5 (quC s n (.slice A6 (ys ++ [(⟨y.x, a6, ac6⟩ : EE)]).length c6))) := Lib.hid (hM)
        have U_y8 : Hid (OwL B0 y7.heap.size y8 (.slice A6 (ys ++ [(⟨y.x, a6, ac6⟩ : EE)]).length c6) (ys ++ [(⟨y.x, a6, ac6⟩ : EE)])) := Lib.hid (OwL.put U_y7.out hP HG5.out)
        have R_y8 : Hid (BK 26 y8 g2 (quC Sp.zero 0 (.slice none 0 0))) := Lib.hid (hP.other R_y7.out (by have h1 := HRS.out; omega))
        have B_y8 : Hid (Below w.heap.size w y8) := Lib.hid (hP.below B_y7.out HW5.out)
        have V_y8 : Hid (BK 34 y8 gx (gE y)) := Lib.hid (hP.other V_y7.out (by have h1 := HGX.out; have h2 := HG5.out; have h3 := HBN.out; omega))
        have Z_y8 : Hid (N0 ≤ y8.heap.size) := Lib.hid (by have h9 := hP.size; have h8 := Z_y7.out; omega)
        have S_y8 : Hid (y7.heap.size ≤ y8.heap.size) := Lib.hid (by have h9 := hP.size; have h8 := S_y7.out; omega)
        clear T_y7 U_y7 R_y7 B_y7 V_y7 Z_y7 S_y7
        clear hM hP hHeld
        refine hK.out _ _ V_y8.out (fun hHeld => ?_)
        clear hK K
        try simp only [Act.put, List.setIfInBounds_toArray, List.set_cons_zero, List.set_cons_succ]
        refine wpAnyH_done (by kernel_rfl) ?_ _
        have w1a : j ≤ 1000000 := by have h1 := HJ.out; have h2 := HL.out; omega
        go_wp2
        go_roundg g
        case measure => omega
        case rel => exact ⟨j + 1, A6, c6, ys ++ [(⟨y.x, a6, ac6⟩ : EE)], by have := HJ.out; omega, by go_num, T_y8.out, U_y8.out.more S_y8.out, by rw [List.map_append, HYS.out, List.take_add_one, HY1.out]; rfl, R_y8.out, B_y8.out, Nat.le_trans HBN.out Z_y8.out⟩
      · have HZ6 : Hid (N0 ≤ y4.heap.size) := Lib.hid (Nat.le_trans HZW6.out C_y4.out.size)
        go_simp
        refine (HCE.out y y4 (HYPL.out _ B_y4.out) HYP.out).mono ?_
        rintro e y5 ⟨a6, ac6, rfl, hpl, hnl, hb⟩
        have T_y5 : Hid (BK 26 y5 g5 (quC s n (.slice A5 ys.length c5))) := Lib.hid (T_y4.out.step hb)
        have U_y5 : Hid (OwL B0 N0 y5 (.slice A5 ys.length c5) ys) := Lib.hid (OwL.step U_y4.out hb)
        have R_y5 : Hid (BK 26 y5 g2 (quC Sp.zero 0 (.slice none 0 0))) := Lib.hid (R_y4.out.step hb)
        have B_y5 : Hid (Below w.heap.size w y5) := Lib.hid (stepB B_y4.out hb)
        have V_y5 : Hid (BK 34 y5 gx (gE y)) := Lib.hid (V_y4.out.step hb)
        have C_y5 : Hid (Below y3.heap.size y3 y5) := Lib.hid (stepB C_y4.out hb)
        clear T_y4 U_y4 R_y4 B_y4 V_y4 C_y4
        have P_y5 : Hid (PN y5 y4.heap.size a6 y.x.m.props) := Lib.hid ⟨hpl, hnl⟩
        have Y_y5 : Hid (y4.heap.size ≤ y5.heap.size) := Lib.hid hb.size
        clear hpl hnl
        clear hHeld hb
        go_wp2_with fail
        refine hK.out _ _ V_y5.out (fun hHeld => ?_)
        clear hK K
        try simp only [Act.put, List.setIfInBounds_toArray, List.set_cons_zero, List.set_cons_succ]
        refine wpAnyH_ready (rs := [1, 4]) (by kernel_rfl) (by simp) ?_
        refine (AllReadyH.cons (get_ops _ _ _ rfl) (fun K hK => ?_) (AllReadyH.cons (get_ops _ _ _ rfl) (fun K hK => ?_) AllReadyH.nil))
        · refine wp_load2 24 _ rfl ⟨g5, 6, none⟩ (by first | rfl | go_simp) (.slice A5 ys.length c5) (by have cS := T_y5.out.cell 6 rfl; go_simp) ?_
          clear hHeld
          refine hK.out _ _ V_y5.out (fun hHeld => ?_)
          clear hK K
          try simp only [Act.put, List.setIfInBounds_toArray, List.set_cons_zero, List.set_cons_succ]
          refine wpAnyH_ready (rs := [4]) (by kernel_rfl) (by simp) ?_
          refine (AllReadyH.cons (get_ops _ _ _ rfl) (fun K hK => ?_) AllReadyH.nil)
          go_simp
          obtain ⟨vb6, hvb⟩ : ∃ n, n = y5.heap.size := ⟨_, rfl⟩
          refine name_world (C := fun w9 => K _ w9) (y5.alloc (.cells (gE (⟨y.x, a6, ac6⟩ : EE)).toArray 34)) ?_
          intro y6 hy6
          have hb : Below y5.heap.size y5 y6 := by rw [hy6]; exact S2.below_new _ _
          have hN : BK 34 y6 vb6 (gE (⟨y.x, a6, ac6⟩ : EE)) := by rw [hy6, hvb]; exact BK.new _ _ _
          have T_y6 : Hid (BK 26 y6 g5 (quC s n (.slice A5 ys.length c5))) := Lib.hid (T_y5.out.step hb)
          have U_y6 : Hid (OwL B0 N0 y6 (.slice A5 ys.length c5) ys) := Lib.hid (OwL.step U_y5.out hb)
          have R_y6 : Hid (BK 26 y6 g2 (quC Sp.zero 0 (.slice none 0 0))) := Lib.hid (R_y5.out.step hb)
          have B_y6 : Hid (Below w.heap.size w y6) := Lib.hid (stepB B_y5.out hb)
          have V_y6 : Hid (BK 34 y6 gx (gE y)) := Lib.hid (V_y5.out.step hb)
          have C_y6 : Hid (Below y3.heap.size y3 y6) := Lib.hid (stepB C_y5.out hb)
          have P_y6 : Hid (PN y6 y4.heap.size a6 y.x.m.props) := Lib.hid (PN.step P_y5.out hb)
          have Y_y6 : Hid (y4.heap.size ≤ y6.heap.size) := Lib.hid (Nat.le_trans Y_y5.out hb.size)
          clear T_y5 U_y5 R_y5 B_y5 V_y5 C_y5 P_y5 Y_y5
          have X_y6 := Lib.hid hN
          try rw [← hvb]
          clear hHeld hb hN hy6 hvb
          refine hK.out _ _ V_y6.out (fun hHeld => ?_)
          clear hK K
          try simp only [Act.put, List.setIfInBounds_toArray, List.set_cons_zero, List.set_cons_succ]
          refine wpAnyH_ready (rs := [5]) (by kernel_rfl) (by simp) ?_
          refine (AllReadyH.cons (get_ops _ _ _ rfl) (fun K hK => ?_) AllReadyH.nil)
          have HW6 : Hid (y4.heap.size ≤ y6.heap.size) := Lib.hid Y_y6.out
          refine oper_owl (B := B0) (N := N0) (Bp := y4.heap.size) _ _ rfl (.slice A5 ys.length c5) ys (⟨y.x, a6, ac6⟩ : EE) (by go_simp) U_y6.out (by go_simp) X_y6.out P_y6.out.1 P_y6.out.2 HBN.out HZ6.out HW6.out (HLN.out) ?_
          intro v6 y7 hO hK9 hsz9
          obtain ⟨A6, c6, rfl, hc6, hen6⟩ := LN.of gE_len hO.1
          have T_y7 : Hid (BK 26 y7 g5 (quC s n (.slice A5 ys.length c5))) := Lib.hid (hK9.bk T_y6.out (Or.inl HG5.out))
          have R_y7 : Hid (BK 26 y7 g2 (quC Sp.zero 0 (.slice none 0 0))) := Lib.hid (hK9.bk R_y6.out (Or.inl HG1B.out.2))
          have B_y7 : Hid (Below w.heap.size w y7) := Lib.hid (hK9.below B_y6.out HWB.out)
          have V_y7 : Hid (BK 34 y7 gx (gE y)) := Lib.hid (hK9.bk V_y6.out (Or.inr HGX.out))
          have U_y7 : Hid (OwL B0 y7.heap.size y7 (.slice A6 (ys ++ [(⟨y.x, a6, ac6⟩ : EE)]).length c6) (ys ++ [(⟨y.x, a6, ac6⟩ : EE)])) := Lib.hid hO
          have Z_y7 : Hid (N0 ≤ y7.heap.size) := Lib.hid (Nat.le_trans (Nat.le_trans HZ6.out HW6.out) hsz9)
          have HC6 := Lib.hid hc6
          have HSZ9_6 := Lib.hid hsz9
          have S_y7 : Hid (y7.heap.size ≤ y7.heap.size) := Lib.hid (Nat.le_refl _)
          clear hO hK9 hsz9 hc6 hen6 hHeld T_y6 U_y6 R_y6 B_y6 V_y6 C_y6 P_y6 Y_y6 X_y6
          refine hK.out _ _ V_y7.out (fun hHeld => ?_)
          clear hK K
          try simp only [Act.put, List.setIfInBounds_toArray, List.set_cons_zero, List.set_cons_succ]
          refine wpAnyH_take (i := 6) (v := (.pointer (some ⟨g5, 6, none⟩))) (get_ops _ _ _ rfl) (by kernel_rfl) (by kernel_rfl) (by kernel_rfl) (fun _ _ _ h => h) (Or.inl ⟨by rfl, fun wS hSw => by (try dsimp only at hSw); go_simp⟩) hHeld ?_
          try simp only [Act.put, List.setIfInBounds_toArray, List.set_cons_zero, List.set_cons_succ]
          refine wpAnyH_ready (rs := [7]) (by kernel_rfl) (by simp) ?_
          refine (AllReadyH.cons (get_ops _ _ _ rfl) (fun K hK => ?_) AllReadyH.nil)
          refine wp_store 24 _ _ rfl rfl ⟨g5, 6, none⟩ (by go_simp) (.slice A6 (ys ++ [(⟨y.x, a6, ac6⟩ : EE)]).length c6) (by first | rfl | go_simp) _ (run_store_part y7 g5 6 1 26 24 (quC s n (.slice A5 ys.length c5)) [(.slice A6 (ys ++ [(⟨y.x, a6, ac6⟩ : EE)]).length c6)] _ rfl rfl (by kernel_rfl) T_y7.out (by show 6 + 1 ≤ 7; decide) (ones rfl)) ?_
          have hM : BK 26 (y7.setRow g5 (putC (quC s n (.slice A5 ys.length c5)) 6 [(.slice A6 (ys ++ [(⟨y.x, a6, ac6⟩ : EE)]).length c6)]).toArray) g5 (quC s n (.slice A6 (ys ++ [(⟨y.x, a6, ac6⟩ : EE)]).length c6)) := MT.put T_y7.out 6 [(.slice A6 (ys ++ [(⟨y.x, a6, ac6⟩ : EE)]).length c6)]
          have hP := S2.put_row y7 g5 (putC (quC s n (.slice A5 ys.length c5)) 6 [(.slice A6 (ys ++ [(⟨y.x, a6, ac6⟩ : EE)]).length c6)]).toArray
          refine name_world (C := fun w9 => K _ w9) _ ?_
          intro y8 hy8
          rw [← hy8] at hM hP
          clear hy8
          have T_y8 : Hid (BK 26 y8 g5 (quC s n (.slice A6 (ys ++ [(⟨y.x, a6, ac6⟩ : EE)]).length c6))) := Lib.hid (hM)
          have U_y8 : Hid (OwL B0 y7.heap.size y8 (.slice A6 (ys ++ [(⟨y.x, a6, ac6⟩ : EE)]).length c6) (ys ++ [(⟨y.x, a6, ac6⟩ : EE)])) := Lib.hid (OwL.put U_y7.out hP HG5.out)
          have R_y8 : Hid (BK 26 y8 g2 (quC Sp.zero 0 (.slice none 0 0))) := Lib.hid (hP.other R_y7.out (by have h1 := HRS.out; omega))
          have B_y8 : Hid (Below w.heap.size w y8) := Lib.hid (hP.below B_y7.out HW5.out)
          have V_y8 : Hid (BK 34 y8 gx (gE y)) := Lib.hid (hP.other V_y7.out (by have h1 := HGX.out; have h2 := HG5.out; have h3 := HBN.out; omega))
          have Z_y8 : Hid (N0 ≤ y8.heap.size) := Lib.hid (by have h9 := hP.size; have h8 := Z_y7.out; omega)
          have S_y8 : Hid (y7.heap.size ≤ y8.heap.size) := Lib.hid (by have h9 := hP.size; have h8 := S_y7.out; omega)
          clear T_y7 U_y7 R_y7 B_y7 V_y7 Z_y7 S_y7
          clear hM hP hHeld
          refine hK.out _ _ V_y8.out (fun hHeld => ?_)
          clear hK K
          try simp only [Act.put, List.setIfInBounds_toArray, List.set_cons_zero, List.set_cons_succ]
          refine wpAnyH_done (by kernel_rfl) ?_ _
          have w1a : j ≤ 1000000 := by have h1 := HJ.out; have h2 := HL.out; omega
          go_wp2
          go_roundg g
          case measure => omega
          case rel => exact ⟨j + 1, A6, c6, ys ++ [(⟨y.x, a6, ac6⟩ : EE)], by have := HJ.out; omega, by go_num, T_y8.out, U_y8.out.more S_y8.out, by rw [List.map_append, HYS.out, List.take_add_one, HY1.out]; rfl, R_y8.out, B_y8.out, Nat.le_trans HBN.out Z_y8.out⟩
        · go_simp
          obtain ⟨vb6, hvb⟩ : ∃ n, n = y5.heap.size := ⟨_, rfl⟩
          refine name_world (C := fun w9 => K _ w9) (y5.alloc (.cells (gE (⟨y.x, a6, ac6⟩ : EE)).toArray 34)) ?_
          intro y6 hy6
          have hb : Below y5.heap.size y5 y6 := by rw [hy6]; exact S2.below_new _ _
          have hN : BK 34 y6 vb6 (gE (⟨y.x, a6, ac6⟩ : EE)) := by rw [hy6, hvb]; exact BK.new _ _ _
          have T_y6 : Hid (BK 26 y6 g5 (quC s n (.slice A5 ys.length c5))) := Lib.hid (T_y5.out.step hb)
          have U_y6 : Hid (OwL B0 N0 y6 (.slice A5 ys.length c5) ys) := Lib.hid (OwL.step U_y5.out hb)
          have R_y6 : Hid (BK 26 y6 g2 (quC Sp.zero 0 (.slice none 0 0))) := Lib.hid (R_y5.out.step hb)
          have B_y6 : Hid (Below w.heap.size w y6) := Lib.hid (stepB B_y5.out hb)
          have V_y6 : Hid (BK 34 y6 gx (gE y)) := Lib.hid (V_y5.out.step hb)
          have C_y6 : Hid (Below y3.heap.size y3 y6) := Lib.hid (stepB C_y5.out hb)
          have P_y6 : Hid (PN y6 y4.heap.size a6 y.x.m.props) := Lib.hid (PN.step P_y5.out hb)
          have Y_y6 : Hid (y4.heap.size ≤ y6.heap.size) := Lib.hid (Nat.le_trans Y_y5.out hb.size)
          clear T_y5 U_y5 R_y5 B_y5 V_y5 C_y5 P_y5 Y_y5
          have X_y6 := Lib.hid hN
          try rw [← hvb]
          clear hHeld hb hN hy6 hvb
          refine hK.out _ _ V_y6.out (fun hHeld => ?_)
          clear hK K
          try simp only [Act.put, List.setIfInBounds_toArray, List.set_cons_zero, List.set_cons_succ]
          refine wpAnyH_ready (rs := [1]) (by kernel_rfl) (by simp) ?_
          refine (AllReadyH.cons (get_ops _ _ _ rfl) (fun K hK => ?_) AllReadyH.nil)
          refine wp_load2 24 _ rfl ⟨g5, 6, none⟩ (by first | rfl | go_simp) (.slice A5 ys.length c5) (by have cS := T_y6.out.cell 6 rfl; go_simp) ?_
          clear hHeld
          refine hK.out _ _ V_y6.out (fun hHeld => ?_)
          clear hK K
          try simp only [Act.put, List.setIfInBounds_toArray, List.set_cons_zero, List.set_cons_succ]
          refine wpAnyH_ready (rs := [5]) (by kernel_rfl) (by simp) ?_
          refine (AllReadyH.cons (get_ops _ _ _ rfl) (fun K hK => ?_) AllReadyH.nil)
          have HW6 : Hid (y4.heap.size ≤ y6.heap.size) := Lib.hid Y_y6.out
          refine oper_owl (B := B0) (N := N0) (Bp := y4.heap.size) _ _ rfl (.slice A5 ys.length c5) ys (⟨y.x, a6, ac6⟩ : EE) (by go_simp) U_y6.out (by go_simp) X_y6.out P_y6.out.1 P_y6.out.2 HBN.out HZ6.out HW6.out (HLN.out) ?_
          intro v6 y7 hO hK9 hsz9
          obtain ⟨A6, c6, rfl, hc6, hen6⟩ := LN.of gE_len hO.1
          have T_y7 : Hid (BK 26 y7 g5 (quC s n (.slice A5 ys.length c5))) := Lib.hid (hK9.bk T_y6.out (Or.inl HG5.out))
          have R_y7 : Hid (BK 26 y7 g2 (quC Sp.zero 0 (.slice none 0 0))) := Lib.hid (hK9.bk R_y6.out (Or.inl HG1B.out.2))
          have B_y7 : Hid (Below w.heap.size w y7) := Lib.hid (hK9.below B_y6.out HWB.out)
          have V_y7 : Hid (BK 34 y7 gx (gE y)) := Lib.hid (hK9.bk V_y6.out (Or.inr HGX.out))
          have U_y7 : Hid (OwL B0 y7.heap.size y7 (.slice A6 (ys ++ [(⟨y.x, a6, ac6⟩ : EE)]).length c6) (ys ++ [(⟨y.x, a6, ac6⟩ : EE)])) := Lib.hid hO
          have Z_y7 : Hid (N0 ≤ y7.heap.size) := Lib.hid (Nat.le_trans (Nat.le_trans HZ6.out HW6.out) hsz9)
          have HC6 := Lib.hid hc6
          have HSZ9_6 := Lib.hid hsz9
          have S_y7 : Hid (y7.heap.size ≤ y7.heap.size) := Lib.hid (Nat.le_refl _)
          clear hO hK9 hsz9 hc6 hen6 hHeld T_y6 U_y6 R_y6 B_y6 V_y6 C_y6 P_y6 Y_y6 X_y6
          refine hK.out _ _ V_y7.out (fun hHeld => ?_)
          clear hK K
          try simp only [Act.put, List.setIfInBounds_toArray, List.set_cons_zero, List.set_cons_succ]
          refine wpAnyH_take (i := 6) (v := (.pointer (some ⟨g5, 6, none⟩))) (get_ops _ _ _ rfl) (by kernel_rfl) (by kernel_rfl) (by kernel_rfl) (fun _ _ _ h => h) (Or.inl ⟨by rfl, fun wS hSw => by (try dsimp only at hSw); go_simp⟩) hHeld ?_
          try simp only [Act.put, List.setIfInBounds_toArray, List.set_cons_zero, List.set_cons_succ]
          refine wpAnyH_ready (rs := [7]) (by kernel_rfl) (by simp) ?_
          refine (AllReadyH.cons (get_ops _ _ _ rfl) (fun K hK => ?_) AllReadyH.nil)
          refine wp_store 24 _ _ rfl rfl ⟨g5, 6, none⟩ (by go_simp) (.slice A6 (ys ++ [(⟨y.x, a6, ac6⟩ : EE)]).length c6) (by first | rfl | go_simp) _ (run_store_part y7 g5 6 1 26 24 (quC s n (.slice A5 ys.length c5)) [(.slice A6 (ys ++ [(⟨y.x, a6, ac6⟩ : EE)]).length c6)] _ rfl rfl (by kernel_rfl) T_y7.out (by show 6 + 1 ≤ 7; decide) (ones rfl)) ?_
          have hM : BK 26 (y7.setRow g5 (putC (quC s n (.slice A5 ys.length c5)) 6 [(.slice A6 (ys ++ [(⟨y.x, a6, ac6⟩ : EE)]).length c6)]).toArray) g5 (quC s n (.slice A6 (ys ++ [(⟨y.x, a6, ac6⟩ : EE)]).length c6)) := MT.put T_y7.out 6 [(.slice A6 (ys ++ [(⟨y.x, a6, ac6⟩ : EE)]).length c6)]
          have hP := S2.put_row y7 g5 (putC (quC s n (.slice A5 ys.length c5)) 6 [(.slice A6 (ys ++ [(⟨y.x, a6, ac6⟩ : EE)]).length c6)]).toArray
          refine name_world (C := fun w9 => K _ w9) _ ?_
          intro y8 hy8
          rw [← hy8] at hM hP
          clear hy8
          have T_y8 : Hid (BK 26 y8 g5 (quC s n (.slice A6 (ys ++ [(⟨y.x, a6, ac6⟩ : EE)]).length c6))) := Lib.hid (hM)
          have U_y8 : Hid (OwL B0 y7.heap.size y8 (.slice A6 (ys ++ [(⟨y.x, a6, ac6⟩ : EE)]).length c6) (ys ++ [(⟨y.x, a6, ac6⟩ : EE)])) := Lib.hid (OwL.put U_y7.out hP HG5.out)
          have R_y8 : Hid (BK 26 y8 g2 (quC Sp.zero 0 (.slice none 0 0))) := Lib.hid (hP.other R_y7.out (by have h1 := HRS.out; omega))
          have B_y8 : Hid (Below w.heap.size w y8) := Lib.hid (hP.below B_y7.out HW5.out)
          have V_y8 : Hid (BK 34 y8 gx (gE y)) := Lib.hid (hP.other V_y7.out (by have h1 := HGX.out; have h2 := HG5.out; have h3 := HBN.out; omega))
          have Z_y8 : Hid (N0 ≤ y8.heap.size) := Lib.hid (by have h9 := hP.size; have h8 := Z_y7.out; omega)
          have S_y8 : Hid (y7.heap.size ≤ y8.heap.size) := Lib.hid (by have h9 := hP.size; have h8 := S_y7.out; omega)
          clear T_y7 U_y7 R_y7 B_y7 V_y7 Z_y7 S_y7
          clear hM hP hHeld
          refine hK.out _ _ V_y8.out (fun hHeld => ?_)
          clear hK K
          try simp only [Act.put, List.setIfInBounds_toArray, List.set_cons_zero, List.set_cons_succ]
          refine wpAnyH_done (by kernel_rfl) ?_ _
          have w1a : j ≤ 1000000 := by have h1 := HJ.out; have h2 := HL.out; omega
          go_wp2
          go_roundg g
          case measure => omega
          case rel => exact ⟨j + 1, A6, c6, ys ++ [(⟨y.x, a6, ac6⟩ : EE)], by have := HJ.out; omega, by go_num, T_y8.out, U_y8.out.more S_y8.out, by rw [List.map_append, HYS.out, List.take_add_one, HY1.out]; rfl, R_y8.out, B_y8.out, Nat.le_trans HBN.out Z_y8.out⟩

end Go.Proofs.YtjhojpghllnoiaaDoor
