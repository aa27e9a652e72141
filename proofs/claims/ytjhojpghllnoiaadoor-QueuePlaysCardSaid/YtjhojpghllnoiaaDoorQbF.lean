/-
  Push and Return of brokerref25: what they answer, in memory of their own. Conditions: the lists read as data; few entries, with few properties; the texts fit.
  Return and Pop of brokerref25: what they answer, in memory of their own. Conditions: the lists read as data; few entries, with few properties; the texts fit.
  Expire of brokerref25: the expired entries and the queue without them, in memory of their own. Conditions: the list reads as data; few entries, with few properties; the times lie in their range.
-/
import Derived.Test.YtjhojpghllnoiaaDoorQbC
namespace Go.Proofs.YtjhojpghllnoiaaDoor
open Go.RowKit
open S2 (BK Put get_ops)

set_option maxRecDepth 20000 in
set_option maxHeartbeats 16000000 in
theorem rPush_any (s : Sp) (n : Int) (A : Option Addr) (c : Nat) (l : List EE) (m : Msg) (a : Option Addr) (mc : Nat) (now : Int) (w : World) (hsl : EI w w.heap.size A l) (hx : PL w w.heap.size a m.props) (hl : l.length ≤ 99900) (hp : ∀ y ∈ l, y.x.m.props.length ≤ 4398046511104) (hn : 0 ≤ n) (hkn : ∀ y ∈ l.map EE.x, y.k ≠ n) (hz : m.topic.size ≤ 9223372036854775807 ∧ m.frm.size ≤ 9223372036854775807 ∧ ∀ y ∈ m.props, y.1.size ≤ 9223372036854775807) (hmp : m.props.length ≤ 4398046511104) :
    Calls Tryd.prog 23 #[quV s n (.slice A l.length c), msgV m a mc, .int .i64 now] w (RetK s (n + 1) (insQ (l.map EE.x) (pushE n now m)) (pushK s n l.length m now) w) := by
  have HC := Lib.hid (fun w1 h2 => rCheck_any m a mc w1 h2 hz.1 hz.2.1 hz.2.2)
  have HT := Lib.hid (fun w1 => rIn_any now 0 1099511627776 w1)
  have HWI := Lib.hid (fun w1 h1 h2 => rInsert_any s n A c l (pushE n now m) a mc w1 h1 h2 hl hp hmp (fun y hy => hkn y hy))
  have HS := Lib.hid hsl
  have HPX := Lib.hid hx
  have HN := Lib.hid hn
  obtain ⟨K, hK⟩ : ∃ K, pushK s n l.length m now = K := ⟨_, rfl⟩
  rw [hK]
  unfold pushK at hK
  generalize insQ (l.map EE.x) (pushE n now m) = L at HWI ⊢
  obtain ⟨ck, hck⟩ : ∃ b, checkR m = b := ⟨_, rfl⟩
  obtain ⟨b1, hb1⟩ : ∃ b, inR now 0 1099511627776 = b := ⟨_, rfl⟩
  rw [hck] at HC hK
  rw [hb1] at HT hK
  have HK := Lib.hid hK
  clear hK hb1 hsl hx hp hck hl hn hkn hz hmp
  have HVM : Hid (msgV m a mc = .agg (msgC m a mc).toArray) := Lib.hid rfl
  rw [HVM.out] at HC ⊢
  unfold RetI quV enW enV at HWI
  unfold quV
  have g1 : ∀ x y : Int, decide (x ≥ y) = decide (y ≤ x) := fun _ _ => rfl
  go_enter Tryd.func23, Tryd.ntmps23
  go_upto_region 1 with fail
  refine name_world (C := fun w1 => Code.wp _ _ _ _ w1) (((w.alloc (.cells (quC s n (.slice A l.length c)).toArray 26)).alloc (.cells (msgC m a mc).toArray 32)).alloc (.cells zeroQ.toArray 26)) ?_
  intro w1 hw1
  obtain ⟨t1, t2, t3, hb1⟩ := three_laid (v1 := quC s n (.slice A l.length c)) (v2 := msgC m a mc) (v3 := zeroQ) hw1
  have Q_w1 := Lib.hid t1
  have M_w1 := Lib.hid t2
  have Z_w1 := Lib.hid t3
  have B_w1 := Lib.hid hb1
  clear hw1 hb1 t1 t2 t3
  obtain ⟨gz, hgz⟩ : ∃ g, g = w.heap.size + 2 := ⟨_, rfl⟩
  obtain ⟨gm, hgm⟩ : ∃ g, g = w.heap.size + 1 := ⟨_, rfl⟩
  obtain ⟨gq, hgq⟩ : ∃ g, g = w.heap.size := ⟨_, rfl⟩
  have HG : Hid (w.heap.size ≤ gq ∧ gq < gm ∧ gm < gz) := Lib.hid (by omega)
  rw [← hgz] at Z_w1
  try rw [← hgz]
  clear hgz
  rw [← hgm] at M_w1
  try rw [← hgm]
  clear hgm
  rw [← hgq] at Q_w1
  try rw [← hgq]
  clear hgq
  go_wp2_with first
    | (refine wpList_load_v (by rfl) 32 (.tmp 4) rfl ⟨gm, 0, none⟩ rfl (.agg (msgC m a mc).toArray) (load_msg0 M_w1.out) ?_)
  refine (HC.out w1 (GL.step HPX.out B_w1.out)).mono ?_
  rintro e y1 ⟨rfl, hb⟩
  have B_y1 : Hid (Below w.heap.size w y1) := Lib.hid (stepB B_w1.out hb)
  have Q_y1 : Hid (BK 26 y1 gq (quC s n (.slice A l.length c))) := Lib.hid (Q_w1.out.step hb)
  have M_y1 : Hid (BK 32 y1 gm (msgC m a mc)) := Lib.hid (M_w1.out.step hb)
  have Z_y1 : Hid (BK 26 y1 gz zeroQ) := Lib.hid (Z_w1.out.step hb)
  clear B_w1 Q_w1 M_w1 Z_w1
  clear hb
  by_cases h0 : ck ≠ 0
  · obtain rfl : K = (ck : Int) := by rw [← HK.out, if_pos h0]
    have q1 : (((ck : Nat) : Int) != 0) = true := by simpa using h0
    go_wp2_with first
      | (refine S2.wpList_store_all (by rfl) 26 (.tmp 6) (.tmp 14) rfl rfl gz rfl zeroQ rfl 26 _ Z_y1.out quSize rfl (ones rfl) ?_; intro we hM hP; have ME := Lib.hid hM; have PE := Lib.hid hP; clear hM hP)
    exact bodyPost_ret (v := .tuple #[.agg zeroQ.toArray, .int .i64 (ck : Nat)]) (S2.res_cell_tmp rfl _ _ gz 26 zeroQ _ _ rfl rfl ME.out Tryd.underlying26 rfl quSize) rfl (RetK.err (by omega) (PE.out.below B_y1.out (by have := HG.out; omega)))
  replace h0 := Decidable.not_not.1 h0
  subst h0
  go_wp2_with fail
  refine (HT.out y1).mono ?_
  rintro e y2 ⟨rfl, hb⟩
  have B_y2 : Hid (Below w.heap.size w y2) := Lib.hid (stepB B_y1.out hb)
  have Q_y2 : Hid (BK 26 y2 gq (quC s n (.slice A l.length c))) := Lib.hid (Q_y1.out.step hb)
  have M_y2 : Hid (BK 32 y2 gm (msgC m a mc)) := Lib.hid (M_y1.out.step hb)
  have Z_y2 : Hid (BK 26 y2 gz zeroQ) := Lib.hid (Z_y1.out.step hb)
  clear B_y1 Q_y1 M_y1 Z_y1
  clear hb
  cases b1 with
  | false =>
    obtain rfl : K = 1 := by rw [← HK.out]; simp
    go_wp2_with first
      | (refine S2.wpList_store_all (by rfl) 26 (.tmp 6) (.tmp 19) rfl rfl gz rfl zeroQ rfl 26 _ Z_y2.out quSize rfl (ones rfl) ?_; intro we hM hP; have ME := Lib.hid hM; have PE := Lib.hid hP; clear hM hP)
    exact bodyPost_ret (v := .tuple #[.agg zeroQ.toArray, .int .i64 1]) (S2.res_cell_tmp rfl _ _ gz 26 zeroQ _ _ rfl rfl ME.out Tryd.underlying26 rfl quSize) rfl (RetK.err (by decide) (PE.out.below B_y2.out (by have := HG.out; omega)))
  | true =>
    have d1 := Q_y2.out.cell 1 rfl
    have d5 := Q_y2.out.cell 5 rfl
    have d6 := Q_y2.out.cell 6 rfl
    by_cases h1 : s.max ≤ (l.length : Int)
    · have q1 : decide (s.max ≤ (l.length : Int)) = true := decide_eq_true h1
      obtain rfl : K = 6 := by rw [← HK.out]; simp [h1]
      clear h1
      go_wp2_with first
        | (refine S2.wpList_store_all (by rfl) 26 (.tmp 6) (.tmp 32) rfl rfl gz rfl zeroQ rfl 26 _ Z_y2.out quSize rfl (ones rfl) ?_; intro we hM hP; have ME := Lib.hid hM; have PE := Lib.hid hP; clear hM hP)
      exact bodyPost_ret (v := .tuple #[.agg zeroQ.toArray, .int .i64 6]) (S2.res_cell_tmp rfl _ _ gz 26 zeroQ _ _ rfl rfl ME.out Tryd.underlying26 rfl quSize) rfl (RetK.err (by decide) (PE.out.below B_y2.out (by have := HG.out; omega)))
    have q1 : decide (s.max ≤ (l.length : Int)) = false := decide_eq_false h1
    by_cases h2 : 1099511627776 ≤ n
    · have q2 : decide (1099511627776 ≤ n) = true := decide_eq_true h2
      obtain rfl : K = 6 := by rw [← HK.out]; simp [h2]
      clear h1 h2
      go_wp2_with first
        | (refine S2.wpList_store_all (by rfl) 26 (.tmp 6) (.tmp 32) rfl rfl gz rfl zeroQ rfl 26 _ Z_y2.out quSize rfl (ones rfl) ?_; intro we hM hP; have ME := Lib.hid hM; have PE := Lib.hid hP; clear hM hP)
      exact bodyPost_ret (v := .tuple #[.agg zeroQ.toArray, .int .i64 6]) (S2.res_cell_tmp rfl _ _ gz 26 zeroQ _ _ rfl rfl ME.out Tryd.underlying26 rfl quSize) rfl (RetK.err (by decide) (PE.out.below B_y2.out (by have := HG.out; omega)))
    have q2 : decide (1099511627776 ≤ n) = false := decide_eq_false h2
    obtain rfl : K = 0 := by rw [← HK.out]; simp [h1, h2]
    have HW1 : Hid (IntKind.i64.wrap (n + 1) = n + 1 ∧ wrap64 (n + 1) = n + 1) := Lib.hid ⟨by rw [IntKind.wrap_i64]; have := HN.out; omega, wrap64_id _ (by have := HN.out; omega) (by omega)⟩
    clear h1 h2
    go_upto_region 8 with fail
    clear q1 q2 d1 d6
    have hlo1 : w.heap.size ≤ y2.heap.size := B_y2.out.size
    have hlo2 : gz < y2.heap.size := Z_y2.out.lt
    go_wp2_with first
      | (refine wpList_load_v (by rfl) 26 (.tmp 3) rfl ⟨gq, 0, none⟩ rfl (.agg (quC s n (.slice A l.length c)).toArray) (load_qu Q_y2.out) ?_)
      | (refine wpList_load_v (by rfl) 32 (.tmp 4) rfl ⟨gm, 0, none⟩ rfl (.agg #[.string m.topic, .string m.payload, .int .i64 m.level, .bool m.retain, .int .i64 m.prio, .int .i64 m.exps, .string m.frm, .int .i64 m.seq, .slice a m.props.length mc]) (load_msg0 M_y2.out) ?_)
    go_wp2_with fail
    refine (HWI.out y2 (HS.out.step B_y2.out) (GL.step HPX.out B_y2.out)).mono ?_
    rintro e y3 ⟨Ai, ci, yi, rfl, hys, hci, hL, hb⟩
    have B_y3 : Hid (Below w.heap.size w y3) := Lib.hid (stepB B_y2.out hb)
    have Q_y3 : Hid (BK 26 y3 gq (quC s n (.slice A l.length c))) := Lib.hid (Q_y2.out.step hb)
    have M_y3 : Hid (BK 32 y3 gm (msgC m a mc)) := Lib.hid (M_y2.out.step hb)
    have Z_y3 : Hid (BK 26 y3 gz zeroQ) := Lib.hid (Z_y2.out.step hb)
    clear B_y2 Q_y2 M_y2 Z_y2
    have U_y3 : Hid (LstE y2.heap.size y3 (.slice Ai yi.length ci) yi) := Lib.hid hL
    have HYI := Lib.hid hys
    have UO := U_y3
    have HUS0 : Hid (y2.heap.size ≤ y3.heap.size) := Lib.hid hb.size
    clear hL hys hci d5
    have HLO : Hid (w.heap.size ≤ y2.heap.size ∧ gz < y2.heap.size) := Lib.hid ⟨hlo1, hlo2⟩
    clear hlo1 hlo2
    clear hb
    go_upto_region 9 with first
      | (refine S2.wpList_store_all (by rfl) 26 (.tmp 9) (.tmp 39) rfl rfl (y3.heap.size) rfl (quC s n (.slice Ai yi.length ci)) rfl 26 _ (BK.new y3 _ _) quSize rfl (ones rfl) ?_; intro y4 hM hP; have hb : Below y3.heap.size y3 y4 := hP.below (S2.below_new y3 _) (Nat.le_refl _); have CW := Lib.hid hb; have B_y4 : Hid (Below w.heap.size w y4) := Lib.hid (stepB B_y3.out hb); have Q_y4 : Hid (BK 26 y4 gq (quC s n (.slice A l.length c))) := Lib.hid (Q_y3.out.step hb); have M_y4 : Hid (BK 32 y4 gm (msgC m a mc)) := Lib.hid (M_y3.out.step hb); have Z_y4 : Hid (BK 26 y4 gz zeroQ) := Lib.hid (Z_y3.out.step hb); have U_y4 : Hid (LstE y2.heap.size y4 (.slice Ai yi.length ci) yi) := Lib.hid (Lst.step U_y3.out hb); have T_y4 : Hid (BK 26 y4 (y3.heap.size) (quC s n (.slice Ai yi.length ci))) := Lib.hid hM; clear hM hP hb B_y3 Q_y3 M_y3 Z_y3 U_y3)
    obtain ⟨g9, hg9⟩ : ∃ b, b = y3.heap.size := ⟨_, rfl⟩
    have HUS : Hid (y2.heap.size ≤ y3.heap.size) := HUS0
    have C0 := CW
    have HG9 : Hid (y3.heap.size ≤ g9) := Lib.hid (by rw [hg9]; exact Nat.le_refl _)
    rw [← hg9] at T_y4
    try rw [← hg9]
    clear hg9
    have d5 := T_y4.out.cell 5 rfl
    obtain ⟨hw1, hw2⟩ := HW1.out
    go_upto_region 10 with first
      | (refine wpList_store_in (by rfl) 3 (.tmp 43) (.tmp 42) rfl rfl g9 5 1 (by first | rfl | go_simp) (.int .i64 (n + 1)) (by first | rfl | go_simp) 26 (quC s n (.slice Ai yi.length ci)) [.int .i64 (n + 1)] T_y4.out rfl rfl (by kernel_rfl) (by show 5 + 1 ≤ 7; decide) (ones rfl) ?_; intro y5 hM hP; have T_y5 : Hid (BK 26 y5 g9 (quC s (n + 1) (.slice Ai yi.length ci))) := Lib.hid hM; have P4 := Lib.hid hP; clear hM hP)
    clear d5 hw1 hw2
    have B_y5 : Hid (Below w.heap.size w y5) := Lib.hid (P4.out.below B_y4.out (by have h1 := HG9.out; have h2 := HLO.out; have h3 := HUS.out; omega))
    have Z_y5 : Hid (BK 26 y5 gz zeroQ) := Lib.hid (P4.out.other Z_y4.out (by have h1 := HG9.out; have h2 := HLO.out; have h3 := HUS.out; omega))
    have U_y5 : Hid (LstE w.heap.size y5 (.slice Ai yi.length ci) yi) := Lib.hid (lst_weak (Lst.step UO.out (P4.out.below C0.out HG9.out)) HLO.out.1)
    clear B_y4 Z_y4 U_y4 T_y4
    go_wp2_with first
      | (refine wpList_load_v (by rfl) 26 (.tmp 9) rfl ⟨g9, 0, none⟩ rfl (.agg (quC s (n + 1) (.slice Ai yi.length ci)).toArray) (load_qu T_y5.out) ?_)
      | (refine S2.wpList_store_all (by rfl) 26 (.tmp 6) (.tmp 44) rfl rfl gz rfl (quC s (n + 1) (.slice Ai yi.length ci)) rfl 26 zeroQ Z_y5.out quSize rfl (quC_one _ rfl) ?_; intro we hM hP; have ME := Lib.hid hM; have PE := Lib.hid hP; clear hM hP)
    exact bodyPost_ret (v := .tuple #[.agg (quC s (n + 1) (.slice Ai yi.length ci)).toArray, .int .i64 0]) (S2.res_cell_tmp rfl _ _ gz 26 (quC s (n + 1) (.slice Ai yi.length ci)) _ _ rfl rfl ME.out Tryd.underlying26 rfl quSize) rfl (RetK.ok HYI.out (lst_weak (lst_put (lst_weak (Lst.step UO.out (P4.out.below C0.out HG9.out)) (Nat.le_refl _)) PE.out HLO.out.2) HLO.out.1) (PE.out.below B_y5.out (by have := HG.out; omega)))

end Go.Proofs.YtjhojpghllnoiaaDoor
namespace Go.Proofs.YtjhojpghllnoiaaDoor
open Go.RowKit
open S2 (BK Put get_ops)

/-- a list of entries whose memory lies in the blocks from B to N -/
def EM5 (w : World) (B N : Nat) (A : Option Addr) (ys : List EE) : Prop := LI gE 12 EE.a eps w N A ys ∧ N ≤ w.heap.size ∧ NewL B A ∧ ∀ x ∈ ys, NewL B x.a
theorem EM5.of {w : World} {B : Nat} {A : Option Addr} {ys : List EE} (h : EN w B A ys) : EM5 w B w.heap.size A ys := ⟨h.1, Nat.le_refl _, h.2⟩
theorem EM5.en {w : World} {B N : Nat} {A : Option Addr} {ys : List EE} (h : EM5 w B N A ys) : EN w B A ys := ⟨h.1.more h.2.1, h.2.2⟩
theorem EM5.step {w w' : World} {B N : Nat} {A : Option Addr} {ys : List EE} (h : EM5 w B N A ys) (hb : Below w.heap.size w w') : EM5 w' B N A ys := ⟨h.1.below (hb.mono h.2.1), Nat.le_trans h.2.1 hb.size, h.2.2⟩
theorem EM5.put {w w' : World} {B N : Nat} {A : Option Addr} {ys : List EE} (h : EM5 w B N A ys) {q : Nat} (hp : Put q w w') (hq : N ≤ q) : EM5 w' B N A ys := ⟨h.1.below (hp.below (Below.refl _ _) hq), by rw [hp.size]; exact h.2.1, h.2.2⟩
theorem EM5.put2 {w w' : World} {B N : Nat} {A : Option Addr} {ys : List EE} (h : EM5 w B N A ys) {q : Nat} (hp : Put q w w') (hq : q < B) : EM5 w' B N A ys := ⟨⟨h.1.1.put hp (fun b o e => by have := h.2.2.1 b o e; omega), fun x hx => PL.put (h.1.2 x hx) hp (fun b o e => by have := h.2.2.2 x hx b o e; omega)⟩, by rw [hp.size]; exact h.2.1, h.2.2⟩
set_option maxRecDepth 20000 in
set_option maxHeartbeats 16000000 in
theorem rReturn_any (s : Sp) (n : Int) (A : Option Addr) (c : Nat) (l : List EE) (x : En) (a : Option Addr) (xc : Nat) (w : World) (hsl : EI w w.heap.size A l) (hx : PL w w.heap.size a x.m.props) (hl : l.length ≤ 99900) (hp : ∀ y ∈ l, y.x.m.props.length ≤ 4398046511104) (hn : 1 ≤ n ∧ n ≤ 1099511627776) (hz : x.m.topic.size ≤ 9223372036854775807 ∧ x.m.frm.size ≤ 9223372036854775807 ∧ ∀ y ∈ x.m.props, y.1.size ≤ 9223372036854775807) :
    Calls Tryd.prog 25 #[quV s n (.slice A l.length c), enW x a xc] w (RetK s n (insQ (l.map EE.x) x) (retK n (l.map EE.x) x) w) := by
  have HC := Lib.hid (fun w1 h2 => rEntry_any x a xc n w1 hn h2 hz)
  have HH := Lib.hid (fun w1 h1 => rHas_any A c l x.k w1 h1 (by omega))
  have HWI := Lib.hid (fun w1 h1 h2 (h3 : entR x n = 0) (h4 : hasQ (l.map EE.x) x.k = false) => rInsert_any s n A c l x a xc w1 h1 h2 hl hp (by have h1 := propsR_parts (checkR_parts (entR_parts h3).2.2.2); have := h1.1; omega) (hasQ_false h4))
  have HS := Lib.hid hsl
  have HPX := Lib.hid hx
  have HLL := Lib.hid hl
  obtain ⟨K, hK⟩ : ∃ K, retK n (l.map EE.x) x = K := ⟨_, rfl⟩
  rw [hK]
  unfold retK at hK
  rw [List.length_map] at hK
  generalize insQ (l.map EE.x) x = L at HWI ⊢
  obtain ⟨ek, hek⟩ : ∃ b, entR x n = b := ⟨_, rfl⟩
  obtain ⟨b1, hb1⟩ : ∃ b, hasQ (l.map EE.x) x.k = b := ⟨_, rfl⟩
  rw [hek] at HC hK HWI
  rw [hb1] at HH hK HWI
  have HK := Lib.hid hK
  clear hK hb1 hsl hx hp hek hl hz
  unfold RetI quV enW enV at HWI
  unfold enW enV at HC
  unfold quV enW enV
  have g1 : ∀ x y : Int, decide (x ≥ y) = decide (y ≤ x) := fun _ _ => rfl
  go_enter Tryd.func25, Tryd.ntmps25
  go_upto_region 1 with fail
  refine name_world (C := fun w1 => Code.wp _ _ _ _ w1) (((w.alloc (.cells (quC s n (.slice A l.length c)).toArray 26)).alloc (.cells (enX x a xc).toArray 34)).alloc (.cells (zeroQ).toArray 26)) ?_
  intro w1 hw1
  obtain ⟨t1, t2, t3, hb1⟩ := three_laid (v1 := quC s n (.slice A l.length c)) (v2 := enX x a xc) (v3 := zeroQ) hw1
  have Q_w1 := Lib.hid t1
  have M_w1 := Lib.hid t2
  have Z_w1 := Lib.hid t3
  have B_w1 := Lib.hid hb1
  clear hw1 hb1 t1 t2 t3
  obtain ⟨gz, hgz⟩ : ∃ g, g = w.heap.size + 2 := ⟨_, rfl⟩
  obtain ⟨gm, hgm⟩ : ∃ g, g = w.heap.size + 1 := ⟨_, rfl⟩
  obtain ⟨gq, hgq⟩ : ∃ g, g = w.heap.size := ⟨_, rfl⟩
  have HG : Hid (w.heap.size ≤ gq ∧ gq < gm ∧ gm < gz) := Lib.hid (by omega)
  rw [← hgz] at Z_w1
  try rw [← hgz]
  clear hgz
  rw [← hgm] at M_w1
  try rw [← hgm]
  clear hgm
  rw [← hgq] at Q_w1
  try rw [← hgq]
  clear hgq
  have d5 := Q_w1.out.cell 5 rfl
  go_wp2_with first
    | (refine wpList_load_v (by rfl) 34 (.tmp 3) rfl ⟨gm, 0, none⟩ rfl (.agg (enX x a xc).toArray) (load_en0 M_w1.out) ?_)
  refine (HC.out w1 (GL.step HPX.out B_w1.out)).mono ?_
  rintro e y1 ⟨rfl, hb⟩
  have B_y1 : Hid (Below w.heap.size w y1) := Lib.hid (stepB B_w1.out hb)
  have Q_y1 : Hid (BK 26 y1 gq (quC s n (.slice A l.length c))) := Lib.hid (Q_w1.out.step hb)
  have M_y1 : Hid (BK 34 y1 gm (enX x a xc)) := Lib.hid (M_w1.out.step hb)
  have Z_y1 : Hid (BK 26 y1 gz zeroQ) := Lib.hid (Z_w1.out.step hb)
  clear B_w1 Q_w1 M_w1 Z_w1
  clear hb
  clear d5
  by_cases h0 : ek ≠ 0
  · obtain rfl : K = ek := by rw [← HK.out, if_pos h0]
    have q1 : (K != 0) = true := by simpa using h0
    go_wp2_with first
      | (refine S2.wpList_store_all (by rfl) 26 (.tmp 4) (.tmp 13) rfl rfl gz rfl zeroQ rfl 26 _ Z_y1.out quSize rfl (ones rfl) ?_; intro we hM hP; have ME := Lib.hid hM; have PE := Lib.hid hP; clear hM hP)
    exact bodyPost_ret (v := .tuple #[.agg zeroQ.toArray, .int .i64 K]) (S2.res_cell_tmp rfl _ _ gz 26 zeroQ _ _ rfl rfl ME.out Tryd.underlying26 rfl quSize) rfl (RetK.err (h0) (PE.out.below B_y1.out (by have := HG.out; omega)))
  replace h0 := Decidable.not_not.1 h0
  subst h0
  have d6 := Q_y1.out.cell 6 rfl
  have d0 := M_y1.out.cell 0 rfl
  go_wp2_with fail
  refine (HH.out y1 (HS.out.step B_y1.out)).mono ?_
  rintro e y2 ⟨rfl, hb⟩
  have B_y2 : Hid (Below w.heap.size w y2) := Lib.hid (stepB B_y1.out hb)
  have Q_y2 : Hid (BK 26 y2 gq (quC s n (.slice A l.length c))) := Lib.hid (Q_y1.out.step hb)
  have M_y2 : Hid (BK 34 y2 gm (enX x a xc)) := Lib.hid (M_y1.out.step hb)
  have Z_y2 : Hid (BK 26 y2 gz zeroQ) := Lib.hid (Z_y1.out.step hb)
  clear B_y1 Q_y1 M_y1 Z_y1
  clear hb
  clear d6 d0
  cases b1 with
  | true =>
    obtain rfl : K = 7 := by rw [← HK.out]; simp
    go_wp2_with first
      | (refine S2.wpList_store_all (by rfl) 26 (.tmp 4) (.tmp 20) rfl rfl gz rfl zeroQ rfl 26 _ Z_y2.out quSize rfl (ones rfl) ?_; intro we hM hP; have ME := Lib.hid hM; have PE := Lib.hid hP; clear hM hP)
    exact bodyPost_ret (v := .tuple #[.agg zeroQ.toArray, .int .i64 7]) (S2.res_cell_tmp rfl _ _ gz 26 zeroQ _ _ rfl rfl ME.out Tryd.underlying26 rfl quSize) rfl (RetK.err (by decide) (PE.out.below B_y2.out (by have := HG.out; omega)))
  | false =>
    have d6 := Q_y2.out.cell 6 rfl
    by_cases h1 : 4352 ≤ (l.length : Int)
    · have q1 : decide (4352 ≤ (l.length : Int)) = true := decide_eq_true h1
      obtain rfl : K = 6 := by rw [← HK.out]; simp [h1]
      clear h1
      go_wp2_with first
        | (refine S2.wpList_store_all (by rfl) 26 (.tmp 4) (.tmp 25) rfl rfl gz rfl zeroQ rfl 26 _ Z_y2.out quSize rfl (ones rfl) ?_; intro we hM hP; have ME := Lib.hid hM; have PE := Lib.hid hP; clear hM hP)
      exact bodyPost_ret (v := .tuple #[.agg zeroQ.toArray, .int .i64 6]) (S2.res_cell_tmp rfl _ _ gz 26 zeroQ _ _ rfl rfl ME.out Tryd.underlying26 rfl quSize) rfl (RetK.err (by decide) (PE.out.below B_y2.out (by have := HG.out; omega)))
    have q1 : decide (4352 ≤ (l.length : Int)) = false := decide_eq_false h1
    obtain rfl : K = 0 := by rw [← HK.out]; simp [h1]
    clear h1
    go_upto_region 8 with fail
    clear q1 d6
    have hlo1 : w.heap.size ≤ y2.heap.size := B_y2.out.size
    have hlo2 : gz < y2.heap.size := Z_y2.out.lt
    go_wp2_with first
      | (refine wpList_load_v (by rfl) 26 (.tmp 2) rfl ⟨gq, 0, none⟩ rfl (.agg (quC s n (.slice A l.length c)).toArray) (load_qu Q_y2.out) ?_)
      | (refine wpList_load_v (by rfl) 34 (.tmp 3) rfl ⟨gm, 0, none⟩ rfl (.agg (enX x a xc).toArray) (load_en0 M_y2.out) ?_)
    go_wp2_with fail
    refine (HWI.out y2 (HS.out.step B_y2.out) (GL.step HPX.out B_y2.out) (by trivial) (by trivial)).mono ?_
    rintro e y3 ⟨Ai, ci, yi, rfl, hys, hci, hL, hb⟩
    have B_y3 : Hid (Below w.heap.size w y3) := Lib.hid (stepB B_y2.out hb)
    have Q_y3 : Hid (BK 26 y3 gq (quC s n (.slice A l.length c))) := Lib.hid (Q_y2.out.step hb)
    have M_y3 : Hid (BK 34 y3 gm (enX x a xc)) := Lib.hid (M_y2.out.step hb)
    have Z_y3 : Hid (BK 26 y3 gz zeroQ) := Lib.hid (Z_y2.out.step hb)
    clear B_y2 Q_y2 M_y2 Z_y2
    have U_y3 : Hid (LstE y2.heap.size y3 (.slice Ai yi.length ci) yi) := Lib.hid hL
    have HYI := Lib.hid hys
    clear hL hys hci
    have HLO : Hid (w.heap.size ≤ y2.heap.size ∧ gz < y2.heap.size) := Lib.hid ⟨hlo1, hlo2⟩
    clear hlo1 hlo2
    clear hb
    go_wp2_with first
      | (refine S2.wpList_store_all (by rfl) 26 (.tmp 4) (.tmp 28) rfl rfl gz rfl (quC s n (.slice Ai yi.length ci)) rfl 26 zeroQ Z_y3.out quSize rfl (quC_one _ rfl) ?_; intro we hM hP; have ME := Lib.hid hM; have PE := Lib.hid hP; clear hM hP)
    exact bodyPost_ret (v := .tuple #[.agg (quC s n (.slice Ai yi.length ci)).toArray, .int .i64 0]) (S2.res_cell_tmp rfl _ _ gz 26 (quC s n (.slice Ai yi.length ci)) _ _ rfl rfl ME.out Tryd.underlying26 rfl quSize) rfl (RetK.ok HYI.out (lst_weak (lst_put U_y3.out PE.out HLO.out.2) HLO.out.1) (PE.out.below B_y3.out (by have := HG.out; omega)))

/-- an entry and a queue that a call answers, the queue's list perhaps a part of one -/
def RetPW (s : Sp) (n : Int) (x : En) (L : List En) (W : World) (E : Ending) (w' : World) : Prop := ∃ a c A2 c2 ys, E = .returned (.tuple #[enW x a c, quV s n (.slice A2 ys.length c2), .bool true]) ∧ PN w' W.heap.size a x.m.props ∧ ys.map EE.x = L ∧ ys.length ≤ c2 ∧ EN w' W.heap.size A2 ys ∧ Below W.heap.size W w'
set_option maxRecDepth 20000 in
set_option maxHeartbeats 16000000 in
theorem rPop0_any (s : Sp) (n : Int) (A : Option Addr) (c : Nat) (w : World) : Calls Tryd.prog 24 #[quV s n (.slice A 0 c)] w (RetP0 w) := by
  obtain ⟨l, hl⟩ : ∃ l : List EE, l = [] := ⟨_, rfl⟩
  have h0 : (.slice A 0 c : Value) = .slice A l.length c := by rw [hl]; rfl
  rw [h0]
  have hln : l.length = 0 := by rw [hl]; rfl
  have HL := Lib.hid hln
  clear hl h0 hln
  unfold quV
  go_enter Tryd.func24, Tryd.ntmps24
  go_upto_region 1 with fail
  refine name_world (C := fun w1 => Code.wp _ _ _ _ w1) (((w.alloc (.cells (quC s n (.slice A l.length c)).toArray 26)).alloc (.cells (enX En.zero none 0).toArray 34)).alloc (.cells (zeroQ).toArray 26)) ?_
  intro w1 hw1
  obtain ⟨t1, t2, t3, hb1⟩ := three_laid (v1 := quC s n (.slice A l.length c)) (v2 := enX En.zero none 0) (v3 := zeroQ) hw1
  have Q_w1 := Lib.hid t1
  have M_w1 := Lib.hid t2
  have Z_w1 := Lib.hid t3
  have B_w1 := Lib.hid hb1
  clear hw1 hb1 t1 t2 t3
  obtain ⟨gz, hgz⟩ : ∃ g, g = w.heap.size + 2 := ⟨_, rfl⟩
  obtain ⟨gm, hgm⟩ : ∃ g, g = w.heap.size + 1 := ⟨_, rfl⟩
  obtain ⟨gq, hgq⟩ : ∃ g, g = w.heap.size := ⟨_, rfl⟩
  have HG : Hid (w.heap.size ≤ gq ∧ gq < gm ∧ gm < gz) := Lib.hid (by omega)
  rw [← hgz] at Z_w1
  try rw [← hgz]
  clear hgz
  rw [← hgm] at M_w1
  try rw [← hgm]
  clear hgm
  rw [← hgq] at Q_w1
  try rw [← hgq]
  clear hgq
  have d6 := Q_w1.out.cell 6 rfl
  have q1 : ((l.length : Int) == 0) = true := by rw [HL.out]; rfl
  have q2 : (l.length == 0) = true := by rw [HL.out]; rfl
  have HGZ : Hid (gm ≠ gz ∧ w.heap.size ≤ gm ∧ w.heap.size ≤ gz) := Lib.hid (by have := HG.out; omega)
  go_wp2_with first
    | (refine S2.wpList_store_all (by rfl) 34 (.tmp 2) (.tmp 10) rfl rfl gm rfl (enX En.zero none 0) rfl 34 _ M_w1.out enSize rfl (enX_one _ _ _) ?_; intro wa hM hP; have MA := Lib.hid hM; have PA := Lib.hid hP; clear hM hP)
    | (refine S2.wpList_store_all (by rfl) 26 (.tmp 3) (.tmp 11) rfl rfl gz rfl zeroQ rfl 26 _ (PA.out.other Z_w1.out (Ne.symm HGZ.out.1)) quSize rfl (quC_one _ rfl) ?_; intro we hM hP; have ME := Lib.hid hM; have PE := Lib.hid hP; clear hM hP)
  exact bodyPost_ret (v := .tuple #[enW En.zero none 0, .agg zeroQ.toArray, .bool false]) (res_cct rfl _ _ gm gz 34 26 (enX En.zero none 0) zeroQ _ _ _ rfl rfl rfl (PE.out.other MA.out HGZ.out.1) ME.out Tryd.underlying34 rfl enSize Tryd.underlying26 rfl quSize) rfl ⟨rfl, PE.out.below (PA.out.below B_w1.out HGZ.out.2.1) HGZ.out.2.2⟩

set_option maxRecDepth 20000 in
set_option maxHeartbeats 16000000 in
theorem rPop_any (s : Sp) (n : Int) (A : Option Addr) (c : Nat) (l : List EE) (x : EE) (w : World) (hsl : EI w w.heap.size A l) (hx : l[0]? = some x) (hn : l.length ≤ 99900) (hp : ∀ y ∈ l, y.x.m.props.length ≤ 4398046511104) :
    Calls Tryd.prog 24 #[quV s n (.slice A l.length c)] w (RetPW s n x.x ((l.map EE.x).drop 1) w) := by
  have hlt : 0 < l.length := (List.getElem?_eq_some_iff.1 hx).1
  have HCL := Lib.hid (fun w1 h1 => rClone_any s n A c l w1 h1 (by omega) hp)
  have HCE := Lib.hid (fun w1 h1 => rCloneEntry_any x.x x.a x.c w1 h1 (hp x (List.mem_of_getElem? hx)))
  have HS := Lib.hid hsl
  have HX := Lib.hid hx
  have HLT := Lib.hid hlt
  have HLN := Lib.hid hn
  clear hsl hp hx
  unfold RetI quV at HCL
  unfold RetE enW enV at HCE
  unfold quV
  go_enter Tryd.func24, Tryd.ntmps24
  go_upto_region 1 with fail
  refine name_world (C := fun w1 => Code.wp _ _ _ _ w1) (((w.alloc (.cells (quC s n (.slice A l.length c)).toArray 26)).alloc (.cells (enX En.zero none 0).toArray 34)).alloc (.cells (zeroQ).toArray 26)) ?_
  intro w1 hw1
  obtain ⟨t1, t2, t3, hb1⟩ := three_laid (v1 := quC s n (.slice A l.length c)) (v2 := enX En.zero none 0) (v3 := zeroQ) hw1
  have Q_w1 := Lib.hid t1
  have M_w1 := Lib.hid t2
  have Z_w1 := Lib.hid t3
  have B_w1 := Lib.hid hb1
  clear hw1 hb1 t1 t2 t3
  obtain ⟨gz, hgz⟩ : ∃ g, g = w.heap.size + 2 := ⟨_, rfl⟩
  obtain ⟨gm, hgm⟩ : ∃ g, g = w.heap.size + 1 := ⟨_, rfl⟩
  obtain ⟨gq, hgq⟩ : ∃ g, g = w.heap.size := ⟨_, rfl⟩
  have HG : Hid (w.heap.size ≤ gq ∧ gq < gm ∧ gm < gz) := Lib.hid (by omega)
  rw [← hgz] at Z_w1
  try rw [← hgz]
  clear hgz
  rw [← hgm] at M_w1
  try rw [← hgm]
  clear hgm
  rw [← hgq] at Q_w1
  try rw [← hgq]
  clear hgq
  have d6 := Q_w1.out.cell 6 rfl
  have q1 : ((l.length : Int) == 0) = false := by simp only [beq_eq_false_iff_ne, ne_eq]; omega
  have q2 : (l.length == 0) = false := by simp only [beq_eq_false_iff_ne, ne_eq]; omega
  have q3 : ¬ l.length = 0 := by omega
  clear hlt hn
  go_upto_region 3 with fail
  clear d6 q1 q2 q3
  have hlo1 : w.heap.size ≤ w1.heap.size := B_w1.out.size
  have hlo2 : gz < w1.heap.size := Z_w1.out.lt
  go_wp2_with first
    | (refine wpList_load_v (by rfl) 26 (.tmp 1) rfl ⟨gq, 0, none⟩ rfl (.agg (quC s n (.slice A l.length c)).toArray) (load_qu Q_w1.out) ?_)
  refine (HCL.out w1 (HS.out.step B_w1.out)).mono ?_
  rintro e y1 ⟨A5, c5, yc, rfl, hys, hcc, hL, hb⟩
  have B_y1 : Hid (Below w.heap.size w y1) := Lib.hid (stepB B_w1.out hb)
  have Q_y1 : Hid (BK 26 y1 gq (quC s n (.slice A l.length c))) := Lib.hid (Q_w1.out.step hb)
  have M_y1 : Hid (BK 34 y1 gm (enX En.zero none 0)) := Lib.hid (M_w1.out.step hb)
  have Z_y1 : Hid (BK 26 y1 gz zeroQ) := Lib.hid (Z_w1.out.step hb)
  clear B_w1 Q_w1 M_w1 Z_w1
  have HWC := Lib.hid hb.size
  obtain ⟨A5, c5, hv5, _, hn5, hg5, hp5⟩ := hL.ret gE_len
  obtain ⟨rfl, _, rfl⟩ := Value.slice.inj hv5
  have HYC := Lib.hid hys
  have HCC := Lib.hid hcc
  have HN5 : Hid (EN y1 w1.heap.size A5 yc) := Lib.hid ⟨⟨hg5, fun z hz => (hp5 z hz).1⟩, hn5, fun z hz => (hp5 z hz).2⟩
  have HLO : Hid (w.heap.size ≤ w1.heap.size ∧ gz < w1.heap.size) := Lib.hid ⟨hlo1, hlo2⟩
  clear hL hys hcc hv5 hn5 hg5 hp5 hlo1 hlo2
  have N5_y1 : Hid (EM5 y1 w1.heap.size y1.heap.size A5 yc) := Lib.hid (EM5.of HN5.out)
  clear HN5
  clear hb
  have hyl : yc.length = l.length := by have h := congrArg List.length HYC.out; rw [List.length_map, List.length_map] at h; exact h
  obtain ⟨pb, po, hA5, _, _⟩ := N5_y1.out.1.1 (by rw [hyl]; exact HLT.out)
  subst hA5
  clear hyl
  go_upto_region 4 with first
    | (refine S2.wpList_store_all (by rfl) 26 (.tmp 5) (.tmp 13) rfl rfl (y1.heap.size) rfl (quC s n (.slice (some ⟨pb, po, none⟩) yc.length c5)) rfl 26 _ (BK.new y1 _ _) quSize rfl (ones rfl) ?_; intro y2 hM hP; have hb : Below y1.heap.size y1 y2 := hP.below (S2.below_new y1 _) (Nat.le_refl _); have B_y2 : Hid (Below w.heap.size w y2) := Lib.hid (stepB B_y1.out hb); have Q_y2 : Hid (BK 26 y2 gq (quC s n (.slice A l.length c))) := Lib.hid (Q_y1.out.step hb); have M_y2 : Hid (BK 34 y2 gm (enX En.zero none 0)) := Lib.hid (M_y1.out.step hb); have Z_y2 : Hid (BK 26 y2 gz zeroQ) := Lib.hid (Z_y1.out.step hb); have N5_y2 : Hid (EM5 y2 w1.heap.size y1.heap.size (some ⟨pb, po, none⟩) yc) := Lib.hid (EM5.step N5_y1.out hb); have T_y2 : Hid (BK 26 y2 (y1.heap.size) (quC s n (.slice (some ⟨pb, po, none⟩) yc.length c5))) := Lib.hid hM; clear hM hP hb B_y1 Q_y1 M_y1 Z_y1 N5_y1)
  obtain ⟨g5, hg5⟩ : ∃ b, b = y1.heap.size := ⟨_, rfl⟩
  have HG5 : Hid (y1.heap.size ≤ g5) := Lib.hid (by rw [hg5]; exact Nat.le_refl _)
  rw [← hg5] at T_y2
  try rw [← hg5]
  clear hg5
  have hyl : yc.length = l.length := by have h := congrArg List.length HYC.out; rw [List.length_map, List.length_map] at h; exact h
  obtain ⟨AD, hAD⟩ : ∃ a, a = (if c5 = 1 then (some ⟨pb, po, none⟩ : Option Addr) else (some (⟨pb, po, none⟩ : Addr)).map (·.add (1 * 12))) := ⟨_, rfl⟩
  obtain ⟨ds, hds⟩ : ∃ t, t = yc.drop 1 := ⟨_, rfl⟩
  have hdl : ds.length = yc.length - 1 := by rw [hds, List.length_drop]
  have HCUT : Hid (∀ w', (Instr.slice 24 (.slice (some ⟨pb, po, none⟩) yc.length c5) (some (.int .i64 1)) none none).run Tryd.prog w' = .ok (.slice AD ds.length (c5 - 1)) w') := Lib.hid (fun w' => by have h := cutE (some ⟨pb, po, none⟩) yc.length c5 1 (by have := HLT.out; omega) w'; rw [hdl, hAD]; exact h)
  have HDR : Hid (∀ w' B, EN w' B (some ⟨pb, po, none⟩) yc → EN w' B AD ds) := Lib.hid (fun w' B h => by
    have h1 := LI.drop h.1 (n := 1) (by have := HLT.out; omega) HCC.out
    rw [← hAD, ← hds] at h1
    refine ⟨h1, fun b o e => ?_, fun z hz => h.2.2 z (by rw [hds] at hz; exact List.mem_of_mem_drop hz)⟩
    rw [hAD] at e
    have hpb : pb = b := by
      split at e
      · simp at e; exact e.1
      · simp [Addr.add] at e; exact e.1
    have := h.2.1 pb po rfl
    omega)
  have HDS : Hid (ds.map EE.x = (l.map EE.x).drop 1) := Lib.hid (by rw [hds, List.map_drop, HYC.out])
  have HDC : Hid (ds.length ≤ c5 - 1) := Lib.hid (by rw [hdl]; have := HCC.out; omega)
  have j1 : (1 : Int) ≤ (yc.length : Int) := by have := HLT.out; omega
  have j2 : (1 : Int) ≤ (c5 : Int) := by have := HCC.out; omega
  have d6 := T_y2.out.cell 6 rfl
  have hcut := HCUT.out
  clear hyl hAD hds hdl
  go_upto_region 5 with first
    | (refine wpList_store_in (by rfl) 24 (.tmp 17) (.tmp 16) rfl rfl g5 6 1 (by first | rfl | go_simp) (.slice AD ds.length (c5 - 1)) (by first | rfl | go_simp) 26 (quC s n (.slice (some ⟨pb, po, none⟩) yc.length c5)) [.slice AD ds.length (c5 - 1)] T_y2.out rfl rfl (by kernel_rfl) (by show 6 + 1 ≤ 7; decide) (ones rfl) ?_; intro y3 hM hP; have T_y3 : Hid (BK 26 y3 g5 (quC s n (.slice AD ds.length (c5 - 1)))) := Lib.hid hM; have P4 := Lib.hid hP; clear hM hP)
  clear d6 hcut j1 j2
  have B_y3 : Hid (Below w.heap.size w y3) := Lib.hid (P4.out.below B_y2.out (by have h1 := HG5.out; have h2 := HLO.out; have h3 := N5_y2.out.2.1; have h4 := HWC.out; omega))
  have Q_y3 : Hid (BK 26 y3 gq (quC s n (.slice A l.length c))) := Lib.hid (P4.out.other Q_y2.out (by have h1 := HG5.out; have h2 := HLO.out; have h3 := HG.out; have h4 := HWC.out; omega))
  have M_y3 : Hid (BK 34 y3 gm (enX En.zero none 0)) := Lib.hid (P4.out.other M_y2.out (by have h1 := HG5.out; have h2 := HLO.out; have h3 := HG.out; have h4 := HWC.out; omega))
  have Z_y3 : Hid (BK 26 y3 gz zeroQ) := Lib.hid (P4.out.other Z_y2.out (by have h1 := HG5.out; have h2 := HLO.out; have h3 := HG.out; have h4 := HWC.out; omega))
  have N5_y3 : Hid (EM5 y3 w1.heap.size y1.heap.size (some ⟨pb, po, none⟩) yc) := Lib.hid (EM5.put N5_y2.out P4.out (by have h1 := HG5.out; omega))
  clear P4 B_y2 Q_y2 M_y2 Z_y2 N5_y2 T_y2
  obtain ⟨b, o, hA3, _, hcl, _⟩ := (HS.out.step B_y3.out).at_ HX.out
  have HLD : Hid (∀ w', Below w.heap.size w w' → (loadVar 34 ⟨b, o + 0 * 12, none⟩).run Tryd.prog w' = .ok (.agg (gE x).toArray) w') := Lib.hid (fun w' h' => by
    obtain ⟨p', o2, hA', _, hcl', _⟩ := LI.at_ (HS.out.step h') HX.out
    rw [hA3] at hA'
    simp only [Option.some.injEq, Addr.mk.injEq, and_true] at hA'
    obtain ⟨rfl, rfl⟩ := hA'
    exact load_ent hcl')
  have HXP : Hid (∀ w', Below w.heap.size w w' → PL w' w'.heap.size x.a x.x.m.props) := Lib.hid (fun w' h' => (HS.out.step h').2 x (List.mem_of_getElem? HX.out))
  subst hA3
  have j3 : (0 : Int) < (l.length : Int) := by have := HLT.out; omega
  have j4 : ¬ l = [] := fun e => by have h := HLT.out; rw [e] at h; exact absurd h (by decide)
  have j5 : 0 < l.length := HLT.out
  clear hcl
  obtain ⟨y4, hy4⟩ : ∃ y4, y4 = World.drew y3 := ⟨_, rfl⟩
  have hbD : Below y3.heap.size y3 y4 := by rw [hy4]; exact (Below.refl _ _).drew
  have B_y4 : Hid (Below w.heap.size w y4) := Lib.hid (stepB B_y3.out hbD)
  have Q_y4 : Hid (BK 26 y4 gq (quC s n (.slice (some ⟨b, o, none⟩) l.length c))) := Lib.hid (Q_y3.out.step hbD)
  have M_y4 : Hid (BK 34 y4 gm (enX En.zero none 0)) := Lib.hid (M_y3.out.step hbD)
  have Z_y4 : Hid (BK 26 y4 gz zeroQ) := Lib.hid (Z_y3.out.step hbD)
  have N5_y4 : Hid (EM5 y4 w1.heap.size y1.heap.size (some ⟨pb, po, none⟩) yc) := Lib.hid (EM5.step N5_y3.out hbD)
  have T_y4 : Hid (BK 26 y4 g5 (quC s n (.slice AD ds.length (c5 - 1)))) := Lib.hid (T_y3.out.step hbD)
  clear B_y3 Q_y3 M_y3 Z_y3 N5_y3 T_y3
  have hbd : (fun w' => BK 26 w' gq (quC s n (.slice (some ⟨b, o, none⟩) l.length c)) ∧ BK 26 w' g5 (quC s n (.slice AD ds.length (c5 - 1))) ∧ Below w.heap.size w w') (World.drew y3) := by rw [← hy4]; exact ⟨Q_y4.out, T_y4.out, B_y4.out⟩
  have hSD : (fun w' => BK 26 w' gq (quC s n (.slice (some ⟨b, o, none⟩) l.length c)) ∧ BK 26 w' g5 (quC s n (.slice AD ds.length (c5 - 1))) ∧ Below w.heap.size w w') y4 := ⟨Q_y4.out, T_y4.out, B_y4.out⟩
  have HWD := Lib.hid hy4
  clear hy4 hbD
  refine wp_region_held_drew (S := fun w' => BK 26 w' gq (quC s n (.slice (some ⟨b, o, none⟩) l.length c)) ∧ BK 26 w' g5 (quC s n (.slice AD ds.length (c5 - 1))) ∧ Below w.heap.size w w') (by kernel_rfl) hbd (fun hHeld => ?_)
  rw [← HWD.out]
  clear hHeld
  have hHeld := hSD
  clear hSD hbd HWD
  refine wpAnyH_take (i := 0) (v := (.pointer (some ⟨gq, 6, none⟩))) (get_ops _ _ _ rfl) (by kernel_rfl) (by kernel_rfl) (by kernel_rfl) (fun _ _ _ h => h) (Or.inl ⟨by rfl, fun wS hSw => by (try dsimp only at hSw); go_simp⟩) hHeld ?_
  try simp only [Act.put, List.setIfInBounds_toArray, List.set_cons_zero, List.set_cons_succ]
  refine wpAnyH_take (i := 1) (v := (.slice (some ⟨b, o, none⟩) l.length c)) (get_ops _ _ _ rfl) (by kernel_rfl) (by kernel_rfl) (by kernel_rfl) (fun _ _ _ h => h) (Or.inl ⟨by rfl, fun wS hSw => by (try dsimp only at hSw); have cS := hSw.1.cell 6 rfl; clear hSw; go_simp⟩) hHeld ?_
  try simp only [Act.put, List.setIfInBounds_toArray, List.set_cons_zero, List.set_cons_succ]
  refine wpAnyH_take (i := 2) (v := (.pointer (some ⟨b, o + 0 * 12, none⟩))) (get_ops _ _ _ rfl) (by kernel_rfl) (by kernel_rfl) (by kernel_rfl) (fun _ _ _ h => h) (Or.inl ⟨by rfl, fun wS hSw => by (try dsimp only at hSw); go_simp⟩) hHeld ?_
  try simp only [Act.put, List.setIfInBounds_toArray, List.set_cons_zero, List.set_cons_succ]
  refine wpAnyH_take (i := 3) (v := (.agg (gE x).toArray)) (get_ops _ _ _ rfl) (by kernel_rfl) (by kernel_rfl) (by kernel_rfl) (fun _ _ _ h => h) (Or.inl ⟨by rfl, fun wS hSw => by (try dsimp only at hSw); exact exec_load 34 _ rfl ⟨b, o + 0 * 12, none⟩ (by go_simp) _ (HLD.out wS hSw.2.2)⟩) hHeld ?_
  try simp only [Act.put, List.setIfInBounds_toArray, List.set_cons_zero, List.set_cons_succ]
  refine wpAnyH_take (i := 5) (v := (.agg (quC s n (.slice AD ds.length (c5 - 1))).toArray)) (get_ops _ _ _ rfl) (by kernel_rfl) (by kernel_rfl) (by kernel_rfl) (fun _ _ _ h => h) (Or.inl ⟨by rfl, fun wS hSw => by (try dsimp only at hSw); exact exec_load 26 _ rfl ⟨g5, 0, none⟩ (by go_simp) _ (load_qu hSw.2.1)⟩) hHeld ?_
  try simp only [Act.put, List.setIfInBounds_toArray, List.set_cons_zero, List.set_cons_succ]
  refine wpAnyH_ready (rs := [4]) (by kernel_rfl) (by simp) ?_
  refine (AllReadyH.cons (get_ops _ _ _ rfl) (fun K hK => ?_) AllReadyH.nil)
  have hz9 : gz < y4.heap.size := Z_y4.out.lt
  have hw9 : w.heap.size ≤ y4.heap.size := B_y4.out.size
  go_simp
  refine (HCE.out y4 (HXP.out _ B_y4.out)).mono ?_
  rintro e y5 ⟨a6, ac6, rfl, hpl, hnl, hb⟩
  have B_y5 : Hid (Below w.heap.size w y5) := Lib.hid (stepB B_y4.out hb)
  have Q_y5 : Hid (BK 26 y5 gq (quC s n (.slice (some ⟨b, o, none⟩) l.length c))) := Lib.hid (Q_y4.out.step hb)
  have M_y5 : Hid (BK 34 y5 gm (enX En.zero none 0)) := Lib.hid (M_y4.out.step hb)
  have Z_y5 : Hid (BK 26 y5 gz zeroQ) := Lib.hid (Z_y4.out.step hb)
  have N5_y5 : Hid (EM5 y5 w1.heap.size y1.heap.size (some ⟨pb, po, none⟩) yc) := Lib.hid (EM5.step N5_y4.out hb)
  have T_y5 : Hid (BK 26 y5 g5 (quC s n (.slice AD ds.length (c5 - 1)))) := Lib.hid (T_y4.out.step hb)
  clear B_y4 Q_y4 M_y4 Z_y4 N5_y4 T_y4
  have P_y5 : Hid (PN y5 y4.heap.size a6 x.x.m.props) := Lib.hid ⟨hpl, hnl⟩
  have HPB : Hid (gz < y4.heap.size ∧ w.heap.size ≤ y4.heap.size) := Lib.hid ⟨hz9, hw9⟩
  clear hpl hnl hz9 hw9
  clear hHeld hb
  go_wp2_with fail
  refine hK.out _ _ ⟨Q_y5.out, T_y5.out, B_y5.out⟩ (fun hHeld => ?_)
  clear hK K
  try simp only [Act.put, List.setIfInBounds_toArray, List.set_cons_zero, List.set_cons_succ]
  refine wpAnyH_ready (rs := [6]) (by kernel_rfl) (by simp) ?_
  refine (AllReadyH.cons (get_ops _ _ _ rfl) (fun K hK => ?_) AllReadyH.nil)
  refine S2.wp_store_all 34 _ _ rfl rfl gm (by go_simp) (enX x.x a6 ac6) (by first | rfl | go_simp) 34 _ M_y5.out enSize rfl (enX_one _ _ _) ?_
  intro y6 hM hP
  have M_y6 : Hid (BK 34 y6 gm (enX x.x a6 ac6)) := Lib.hid (hM)
  have B_y6 : Hid (Below w.heap.size w y6) := Lib.hid (hP.below B_y5.out (by have := HG.out; omega))
  have Q_y6 : Hid (BK 26 y6 gq (quC s n (.slice (some ⟨b, o, none⟩) l.length c))) := Lib.hid (hP.other Q_y5.out (by have := HG.out; omega))
  have Z_y6 : Hid (BK 26 y6 gz zeroQ) := Lib.hid (hP.other Z_y5.out (by have := HG.out; omega))
  have N5_y6 : Hid (EM5 y6 w1.heap.size y1.heap.size (some ⟨pb, po, none⟩) yc) := Lib.hid (EM5.put2 N5_y5.out hP (by have h1 := HLO.out; have h2 := HG.out; omega))
  have T_y6 : Hid (BK 26 y6 g5 (quC s n (.slice AD ds.length (c5 - 1)))) := Lib.hid (hP.other T_y5.out (by have h1 := HG5.out; have h2 := HLO.out; have h3 := HG.out; have h4 := HWC.out; omega))
  have P_y6 : Hid (PN y6 y4.heap.size a6 x.x.m.props) := Lib.hid (PN.put P_y5.out hP (by have h1 := HPB.out; have h2 := HG.out; omega))
  clear B_y5 Q_y5 M_y5 Z_y5 N5_y5 T_y5 P_y5
  clear hM hP hHeld
  refine hK.out _ _ ⟨Q_y6.out, T_y6.out, B_y6.out⟩ (fun hHeld => ?_)
  clear hK K
  try simp only [Act.put, List.setIfInBounds_toArray, List.set_cons_zero, List.set_cons_succ]
  refine wpAnyH_ready (rs := [7]) (by kernel_rfl) (by simp) ?_
  refine (AllReadyH.cons (get_ops _ _ _ rfl) (fun K hK => ?_) AllReadyH.nil)
  refine S2.wp_store_all 26 _ _ rfl rfl gz (by go_simp) (quC s n (.slice AD ds.length (c5 - 1))) (by first | rfl | go_simp) 26 _ Z_y6.out quSize rfl (quC_one _ rfl) ?_
  intro y7 hM hP
  have Z_y7 : Hid (BK 26 y7 gz (quC s n (.slice AD ds.length (c5 - 1)))) := Lib.hid (hM)
  have B_y7 : Hid (Below w.heap.size w y7) := Lib.hid (hP.below B_y6.out (by have := HG.out; omega))
  have Q_y7 : Hid (BK 26 y7 gq (quC s n (.slice (some ⟨b, o, none⟩) l.length c))) := Lib.hid (hP.other Q_y6.out (by have := HG.out; omega))
  have M_y7 : Hid (BK 34 y7 gm (enX x.x a6 ac6)) := Lib.hid (hP.other M_y6.out (by have := HG.out; omega))
  have N5_y7 : Hid (EM5 y7 w1.heap.size y1.heap.size (some ⟨pb, po, none⟩) yc) := Lib.hid (EM5.put2 N5_y6.out hP HLO.out.2)
  have T_y7 : Hid (BK 26 y7 g5 (quC s n (.slice AD ds.length (c5 - 1)))) := Lib.hid (hP.other T_y6.out (by have h1 := HG5.out; have h2 := HLO.out; have h4 := HWC.out; omega))
  have P_y7 : Hid (PN y7 y4.heap.size a6 x.x.m.props) := Lib.hid (PN.put P_y6.out hP HPB.out.1)
  clear B_y6 Q_y6 M_y6 Z_y6 N5_y6 T_y6 P_y6
  clear hM hP hHeld
  refine hK.out _ _ ⟨Q_y7.out, T_y7.out, B_y7.out⟩ (fun hHeld => ?_)
  clear hK K
  try simp only [Act.put, List.setIfInBounds_toArray, List.set_cons_zero, List.set_cons_succ]
  refine wpAnyH_take (i := 8) (v := (.bool true)) (get_ops _ _ _ rfl) (by kernel_rfl) (by kernel_rfl) (by kernel_rfl) (fun _ _ _ h => h) (Or.inl ⟨by rfl, fun wS hSw => by (try dsimp only at hSw); go_simp⟩) hHeld ?_
  try simp only [Act.put, List.setIfInBounds_toArray, List.set_cons_zero, List.set_cons_succ]
  refine wpAnyH_done (by kernel_rfl) ?_ _
  go_wp2_with fail
  exact bodyPost_ret (v := .tuple #[enW x.x a6 ac6, quV s n (.slice AD ds.length (c5 - 1)), .bool true]) (res_cct rfl _ _ gm gz 34 26 (enX x.x a6 ac6) (quC s n (.slice AD ds.length (c5 - 1))) _ _ _ rfl rfl rfl M_y7.out Z_y7.out Tryd.underlying34 rfl enSize Tryd.underlying26 rfl quSize) rfl ⟨a6, ac6, AD, c5 - 1, ds, rfl, ⟨P_y7.out.1, fun b o e => by have := P_y7.out.2 b o e; have := HPB.out; omega⟩, HDS.out, HDC.out, LN.weak (HDR.out _ _ N5_y7.out.en) HLO.out.1, B_y7.out⟩

end Go.Proofs.YtjhojpghllnoiaaDoor
namespace Go.Proofs.YtjhojpghllnoiaaDoor
open Go.RowKit
open S2 (BK Put get_ops)

abbrev Tw (B : Nat) (w : World) (v1 : Value) (xs1 : List EE) (v2 : Value) (xs2 : List EE) : Prop := Two 34 gE 12 EE.a eps B w v1 xs1 v2 xs2
/-- two lists of the call's own, from block B on and below block N -/
def TwL (B N : Nat) (w : World) (v1 : Value) (xs1 : List EE) (v2 : Value) (xs2 : List EE) : Prop := Tw B w v1 xs1 v2 xs2 ∧ (∀ q, v1.ownBlock = some q ∨ v2.ownBlock = some q → q < N) ∧ ∀ x, x ∈ xs1 ∨ x ∈ xs2 → NewL B x.a
section
variable {B N : Nat} {w w' : World} {v1 v2 : Value} {xs1 xs2 : List EE}
theorem TwL.nil (B N : Nat) (w : World) : TwL B N w (.slice none 0 0) [] (.slice none 0 0) [] := ⟨Two.nil, fun q e => by simp [Value.ownBlock] at e, fun x hx => by rcases hx with hx | hx <;> cases hx⟩
theorem TwL.symm (h : TwL B N w v1 xs1 v2 xs2) : TwL B N w v2 xs2 v1 xs1 := ⟨h.1.symm, fun q e => h.2.1 q e.symm, fun x hx => h.2.2 x hx.symm⟩
theorem TwL.step (h : TwL B N w v1 xs1 v2 xs2) (hb : Below w.heap.size w w') : TwL B N w' v1 xs1 v2 xs2 := ⟨h.1.step hb, h.2⟩
theorem TwL.more {N' : Nat} (h : TwL B N w v1 xs1 v2 xs2) (hN : N ≤ N') : TwL B N' w v1 xs1 v2 xs2 := ⟨h.1, fun q e => Nat.lt_of_lt_of_le (h.2.1 q e) hN, h.2.2⟩
theorem ownE_put {g : Nat} {v : Value} {xs : List EE} (h : OwnE w B v xs) (hp : Put g w w') (hg : g < B) : OwnE w' B v xs := by
  rcases own_rowG h with ⟨rfl, rfl⟩ | ⟨q, cap, sp, rfl, hbq, hrow, hnc, hcm, hl⟩
  · exact OwnG.nil _ _
  · exact row_ownG gE_len hbq (hp.other hrow (by omega)) hnc hcm hl
theorem TwL.put {g : Nat} (h : TwL B N w v1 xs1 v2 xs2) (hp : Put g w w') (hg : g < B) : TwL B N w' v1 xs1 v2 xs2 :=
  ⟨⟨ownE_put h.1.a hp hg, ownE_put h.1.b hp hg, h.1.d, fun x hx => ⟨by rw [hp.size]; exact PL.put (h.1.p x hx).1 hp (fun b o e => by have := h.2.2 x hx b o e; omega), (h.1.p x hx).2⟩⟩, h.2⟩
end
section
variable {ops : Array Oper} {rest : List Oper} {o : Oper} {a : Act} {Q : Exit → Act → World → Prop}
/-- one element behind the second list -/
theorem oper_twl {B N Bp vb : Nat} {wr : World} {K : Act → World → Prop} (s x : Operand) (ho : o.op = .call { callee := .builtin .append, args := #[s, x], argTypes := #[24, 24] }) (v1 v2 : Value) (xs1 xs2 : List EE) (y : EE) (hs : a.eval s = v2) (hout : TwL B N wr v1 xs1 v2 xs2)
    (hx : a.eval x = .slice (some ⟨vb, 0, none⟩) 1 1) (hX : BK 34 wr vb (gE y)) (hp : PL wr wr.heap.size y.a (eps y)) (hnw : NewL Bp y.a) (hBN : B ≤ N) (hNp : N ≤ Bp) (hpw : Bp ≤ wr.heap.size) (hn : xs2.length ≤ 100000)
    (h : ∀ v' w', TwL B w'.heap.size w' v1 xs1 v' (xs2 ++ [y]) → Kpo B N Bp wr w' → wr.heap.size ≤ w'.heap.size → K (a.put o.dst v') w') : o.wp Tryd.prog a wr K Q := by
  obtain ⟨hl, hq, hnl⟩ := hout
  refine oper_appG (P := Tryd.prog) (by decide) s x 24 24 ho (.agg (enX En.zero none 0).toArray) 136 Tryd.underlying24 enInfo rfl (by decide) B v2 xs2 [y] _ hs hl.b hx (src_blk gE_len gE_one Tryd.underlying24 hX) (by omega) (by simp; omega) ?_
  intro v' w' hown' hgr hoffs
  have hrow : ∀ k, v2.ownBlock = some k → B ≤ k := fun k e => (own_lt hl.b k e).1
  have hoff : ∀ b o, y.a = some ⟨b, o, none⟩ → 0 < (eps y).length → v1.ownBlock ≠ some b ∧ v2.ownBlock ≠ some b := fun b o e _ => ⟨fun e2 => by have := hnw b o e; have := hq b (Or.inl e2); omega, fun e2 => by have := hnw b o e; have := hq b (Or.inr e2); omega⟩
  have keep : ∀ (A : Option Addr) (p : List PR), PL wr wr.heap.size A p → (∀ b o, A = some ⟨b, o, none⟩ → 0 < p.length → v1.ownBlock ≠ some b ∧ v2.ownBlock ≠ some b) → PL w' w'.heap.size A p ∧ (∀ b o, A = some ⟨b, o, none⟩ → 0 < p.length → v1.ownBlock ≠ some b ∧ v'.ownBlock ≠ some b) := fun A p hpl hof =>
    ⟨PL.grow hpl hgr (fun b o e2 hn => (hof b o e2 hn).2), fun b o e2 hn => ⟨(hof b o e2 hn).1, hoffs b (PL.lt hpl hn b o e2) (hof b o e2 hn).2⟩⟩
  refine h v' w' ⟨⟨hl.a.grow hgr (fun b e2 => hl.d b e2), hown', fun n e1 => hoffs n (own_lt hl.a n e1).2 (hl.d n e1), fun z hz => ?_⟩, fun q e => ?_, fun z hz => ?_⟩ ⟨fun hb hC => ?_, fun hM hMB => ?_, fun he => ?_⟩ hgr.size
  · rcases hz with hz | hz
    · exact keep _ _ (hl.p z (Or.inl hz)).1 (hl.p z (Or.inl hz)).2
    · rcases List.mem_append.1 hz with hz | hz
      · exact keep _ _ (hl.p z (Or.inr hz)).1 (hl.p z (Or.inr hz)).2
      · simp at hz
        subst hz
        exact keep _ _ hp hoff
  · rcases e with e | e
    · have h1 := (own_lt hl.a q e).2
      have h2 := hgr.size
      omega
    · exact (own_lt hown' q e).2
  · rcases hz with hz | hz
    · exact hnl z (Or.inl hz)
    · rcases List.mem_append.1 hz with hz | hz
      · exact hnl z (Or.inr hz)
      · simp at hz
        subst hz
        exact fun b o e => by have := hnw b o e; omega
  · exact Below.grow2 hb hgr (by omega) (fun k e => Nat.le_trans hC (hrow k e))
  · refine BK.grow hM hgr (fun e => ?_)
    have h1 := hrow _ e
    have h2 := hq _ (Or.inr e)
    omega
  · exact ⟨LI.grow he.1 hgr (fun b o e e2 => by have h1 := he.2.1 b o e; have h2 := hq b (Or.inr e2); omega) (fun y hy b o e e2 => by have h1 := he.2.2 y hy b o e; have h2 := hq b (Or.inr e2); omega), he.2⟩
/-- the same where the element's block is made in the same breath -/
theorem wpList_twl {B N Bp : Nat} (wr : World) (hgd : o.guard = none) (s x : Operand) (ho : o.op = .call { callee := .builtin .append, args := #[s, x], argTypes := #[24, 24] }) (v1 v2 : Value) (xs1 xs2 : List EE) (y : EE) (hs : a.eval s = v2) (hout : TwL B N wr v1 xs1 v2 xs2)
    (hx : a.eval x = .slice (some ⟨wr.heap.size, 0, none⟩) 1 1) (hp : PL wr wr.heap.size y.a (eps y)) (hnw : NewL Bp y.a) (hBN : B ≤ N) (hNp : N ≤ Bp) (hpw : Bp ≤ wr.heap.size) (hn : xs2.length ≤ 100000)
    (h : ∀ v' w', TwL B w'.heap.size w' v1 xs1 v' (xs2 ++ [y]) → Kpo B N Bp wr w' → wr.heap.size ≤ w'.heap.size → wpList Tryd.prog ops Q rest (a.put o.dst v') w') : wpList Tryd.prog ops Q (o :: rest) a (wr.alloc (.cells (gE y).toArray 34)) :=
  wpList_plain hgd fun _ hK => by
    have hst := S2.below_new wr (.cells (gE y).toArray 34)
    refine oper_twl (wr := wr.alloc (.cells (gE y).toArray 34)) s x ho v1 v2 xs1 xs2 y hs (hout.step hst) hx (BK.new wr _ _) (hp.step hst) hnw hBN hNp (Nat.le_trans hpw hst.size) hn ?_
    intro v' w' h1 h2 h3
    exact hK _ _ (h v' w' h1 ⟨fun hb hC => h2.below (hb.trans (hst.mono (by omega))) hC, fun hM hMB => h2.bk (hM.step hst) hMB, fun he => h2.en (he.step hst)⟩ (Nat.le_trans hst.size h3))
end
theorem gone_succ (s : Sp) (now : Int) {l : List En} {j : Nat} {e : En} (h : l[j]? = some e) : goneQ s now (l.take (j + 1)) = goneQ s now (l.take j) ++ (if expX s.ttl e.r e.m now = true then [e] else []) ∧ leftQ s now (l.take (j + 1)) = leftQ s now (l.take j) ++ (if expX s.ttl e.r e.m now = true then [] else [e]) := by
  unfold goneQ leftQ
  rw [List.take_add_one, h, List.filter_append, List.filter_append]
  cases hp : expX s.ttl e.r e.m now <;> simp [hp]

set_option maxRecDepth 20000 in
set_option maxHeartbeats 32000000 in
theorem rExpire_any (s : Sp) (n : Int) (A : Option Addr) (c : Nat) (l : List EE) (now : Int) (w : World) (hsl : EI w w.heap.size A l) (hn : l.length ≤ 99900) (hp : ∀ y ∈ l, y.x.m.props.length ≤ 4398046511104) (hs : 0 ≤ s.ttl ∧ s.ttl ≤ 1099511627776) (hr : ∀ y ∈ l, 0 ≤ y.x.r ∧ y.x.r ≤ 1099511627776) :
    Calls Tryd.prog 26 #[quV s n (.slice A l.length c), .int .i64 now] w (RetX s n (goneQ s now (l.map EE.x)) (leftQ s now (l.map EE.x)) w) := by
  have HE := Lib.hid (fun (x : EE) w1 (h : 0 ≤ x.x.r ∧ x.x.r ≤ 1099511627776) => rqExpired_any s x.x.k x.x.r x.x.t x.x.m x.a x.c now w1 hs h)
  have HCE := Lib.hid (fun (y : En) a c w1 h1 h2 => rCloneEntry_any y a c w1 h1 h2)
  have HCL := Lib.hid (fun w1 h1 => rClone_any s n A c l w1 h1 (by omega) hp)
  have HS := Lib.hid hsl
  have HPP := Lib.hid hp
  have HRR := Lib.hid hr
  have HL := Lib.hid hn
  clear hsl hp hn hr hs
  unfold RetE enW enV at HCE
  unfold RetI quV at HCL
  unfold enV at HE
  have HSV : Hid (spV s = .agg (spC s).toArray) := Lib.hid rfl
  rw [HSV.out] at HE
  unfold quV
  go_enter Tryd.func26, Tryd.ntmps26
  go_upto_region 1 with fail
  refine name_world (C := fun w1 => Code.wp _ _ _ _ w1) ((w.alloc (.cells (quC s n (.slice A l.length c)).toArray 26)).alloc (.cells (quC Sp.zero 0 (.slice none 0 0)).toArray 26)) ?_
  intro w1 hw1
  have hb1 : Below w.heap.size w w1 := by rw [hw1]; exact stepB (S2.below_new w _) (S2.below_new _ _)
  have Q_w1 : Hid (BK 26 w1 w.heap.size (quC s n (.slice A l.length c))) := Lib.hid (by rw [hw1]; exact BK.alloc (BK.new w _ _) _)
  have R_w1 : Hid (BK 26 w1 (w.heap.size + 1) (quC Sp.zero 0 (.slice none 0 0))) := Lib.hid (by rw [hw1]; exact bk_new1 w _ _ _)
  have B_w1 := Lib.hid hb1
  clear hw1 hb1
  obtain ⟨g2, hg2⟩ : ∃ g, g = w.heap.size + 1 := ⟨_, rfl⟩
  obtain ⟨g1, hg1⟩ : ∃ g, g = w.heap.size := ⟨_, rfl⟩
  have HG12 : Hid (w.heap.size ≤ g1 ∧ g1 < g2) := Lib.hid (by omega)
  rw [← hg2] at R_w1
  try rw [← hg2]
  clear hg2
  rw [← hg1] at Q_w1
  try rw [← hg1]
  clear hg1
  go_wp2_with first
    | (refine wpList_load_v (by rfl) 26 (.tmp 2) rfl ⟨g1, 0, none⟩ rfl (.agg (quC s n (.slice A l.length c)).toArray) (load_qu Q_w1.out) ?_)
  refine (HCL.out w1 (HS.out.step B_w1.out)).mono ?_
  rintro e y1 ⟨Ac, cc, yc, rfl, _, _, _, hb⟩
  have B_y1 : Hid (Below w.heap.size w y1) := Lib.hid (stepB B_w1.out hb)
  have Q_y1 : Hid (BK 26 y1 g1 (quC s n (.slice A l.length c))) := Lib.hid (Q_w1.out.step hb)
  have R_y1 : Hid (BK 26 y1 g2 (quC Sp.zero 0 (.slice none 0 0))) := Lib.hid (R_w1.out.step hb)
  clear B_w1 Q_w1 R_w1
  clear hb
  have HRW : Hid (g2 < y1.heap.size) := Lib.hid R_y1.out.lt
  have HB5 : Hid (w.heap.size ≤ y1.heap.size) := Lib.hid B_y1.out.size
  clear HCL
  go_upto_region 3 with first
    | (refine S2.wpList_store_all (by rfl) 26 (.tmp 7) (.tmp 11) rfl rfl (y1.heap.size) rfl (quC s n (.slice Ac yc.length cc)) rfl 26 _ (BK.new y1 _ _) quSize rfl (ones rfl) ?_; intro y2 hM hP; have hb : Below y1.heap.size y1 y2 := hP.below (S2.below_new y1 _) (Nat.le_refl _); have B_y2 : Hid (Below w.heap.size w y2) := Lib.hid (stepB B_y1.out hb); have Q_y2 : Hid (BK 26 y2 g1 (quC s n (.slice A l.length c))) := Lib.hid (Q_y1.out.step hb); have R_y2 : Hid (BK 26 y2 g2 (quC Sp.zero 0 (.slice none 0 0))) := Lib.hid (R_y1.out.step hb); have T_y2 : Hid (BK 26 y2 (y1.heap.size) (quC s n (.slice Ac yc.length cc))) := Lib.hid hM; clear hM hP hb B_y1 Q_y1 R_y1)
  obtain ⟨g5, hg5⟩ : ∃ b, b = y1.heap.size := ⟨_, rfl⟩
  have HRS : Hid (g2 < g5 ∧ w.heap.size ≤ g5) := Lib.hid (by rw [hg5]; have h1 := HRW.out; have h2 := HB5.out; exact ⟨by omega, h2⟩)
  rw [← hg5] at T_y2
  try rw [← hg5]
  clear hg5 HB5 HRW
  go_upto_region 4 with first
    | (refine wpList_store_in (by rfl) 24 (.tmp 12) (.const (.slice none 0 0)) rfl rfl g5 6 1 (by first | rfl | go_simp) (.slice none 0 0) rfl 26 (quC s n (.slice Ac yc.length cc)) [.slice none 0 0] T_y2.out rfl rfl (by kernel_rfl) (by show 6 + 1 ≤ 7; decide) (ones rfl) ?_; intro y3 hM hP; have T_y3 : Hid (BK 26 y3 g5 (quC s n (.slice none 0 0))) := Lib.hid hM; have B_y3 : Hid (Below w.heap.size w y3) := Lib.hid (hP.below B_y2.out HRS.out.2); have Q_y3 : Hid (BK 26 y3 g1 (quC s n (.slice A l.length c))) := Lib.hid (hP.other Q_y2.out (by have h1 := HRS.out; have h2 := HG12.out; omega)); have R_y3 : Hid (BK 26 y3 g2 (quC Sp.zero 0 (.slice none 0 0))) := Lib.hid (hP.other R_y2.out (by have h1 := HRS.out; have h2 := HG12.out; omega)); clear hM hP B_y2 Q_y2 R_y2 T_y2)
  obtain ⟨B0, hB0⟩ : ∃ b, b = y3.heap.size := ⟨_, rfl⟩
  have HG5 : Hid (g5 < B0) := Lib.hid (by rw [hB0]; exact T_y3.out.lt)
  have HWB : Hid (w.heap.size ≤ B0) := Lib.hid (by rw [hB0]; exact B_y3.out.size)
  have HB0 : Hid (B0 ≤ y3.heap.size) := Lib.hid (by rw [hB0]; exact Nat.le_refl _)
  have HW5 : Hid (w.heap.size ≤ g5) := Lib.hid HRS.out.2
  have HG1B : Hid (g1 < B0 ∧ g2 < B0) := Lib.hid (by have h1 := HG12.out; have h2 := HRS.out; have h3 := HG5.out; omega)
  clear hB0
  have d6 := Q_y3.out.cell 6 rfl
  go_wp2_with fail
  clear d6
  go_loopg [16, 6] l.length (fun g v u wr => ∃ (j : Nat) (A1 : Option Addr) (c1 : Nat) (fs : List EE) (A5 : Option Addr) (c5 : Nat) (ys : List EE), j + g = l.length ∧ v = .int .i64 j ∧ u = .slice A1 fs.length c1 ∧ BK 26 wr g5 (quC s n (.slice A5 ys.length c5)) ∧ TwL B0 wr.heap.size wr (.slice A1 fs.length c1) fs (.slice A5 ys.length c5) ys ∧ fs.map EE.x = goneQ s now ((l.map EE.x).take j) ∧ ys.map EE.x = leftQ s now ((l.map EE.x).take j) ∧ BK 26 wr g1 (quC s n (.slice A l.length c)) ∧ BK 26 wr g2 (quC Sp.zero 0 (.slice none 0 0)) ∧ Below w.heap.size w wr ∧ B0 ≤ wr.heap.size)
  case atStart => exact ⟨0, none, 0, [], none, 0, [], by omega, rfl, rfl, T_y3.out, TwL.nil _ _ _, rfl, rfl, Q_y3.out, R_y3.out, B_y3.out, HB0.out⟩
  case round =>
    clear B_y3 Q_y3 R_y3 T_y3
    obtain ⟨j, A1, c1, fs, A5, c5, ys, hjg, rfl, rfl, ht, hu, hfs, hys, hq, hr, hbb, hzz⟩ := hrel
    have T_wr := Lib.hid ht
    have U_wr := Lib.hid hu
    have Q_wr := Lib.hid hq
    have R_wr := Lib.hid hr
    have B_wr := Lib.hid hbb
    have HZZ := Lib.hid hzz
    have HJ := Lib.hid hjg
    have HFS := Lib.hid hfs
    have HYS := Lib.hid hys
    clear ht hu hq hr hbb hzz hys hfs
    cases gk with
    | zero =>
      obtain rfl : j = l.length := by omega
      clear hjg
      go_upto_region 11 with fail
      clear Q_wr
      obtain ⟨y4, hy4⟩ : ∃ y4, y4 = World.drew wr := ⟨_, rfl⟩
      have hbD : Below wr.heap.size wr y4 := by rw [hy4]; exact (Below.refl _ _).drew
      have T_y4 : Hid (BK 26 y4 g5 (quC s n (.slice A5 ys.length c5))) := Lib.hid (T_wr.out.step hbD)
      have U_y4 : Hid (TwL B0 wr.heap.size y4 (.slice A1 fs.length c1) fs (.slice A5 ys.length c5) ys) := Lib.hid (TwL.step U_wr.out hbD)
      have R_y4 : Hid (BK 26 y4 g2 (quC Sp.zero 0 (.slice none 0 0))) := Lib.hid (R_wr.out.step hbD)
      have B_y4 : Hid (Below w.heap.size w y4) := Lib.hid (stepB B_wr.out hbD)
      clear T_wr U_wr R_wr B_wr
      have hbd : (fun w' => BK 26 w' g5 (quC s n (.slice A5 ys.length c5))) (World.drew wr) := by rw [← hy4]; exact T_y4.out
      have hSD : (fun w' => BK 26 w' g5 (quC s n (.slice A5 ys.length c5))) y4 := T_y4.out
      have HWD := Lib.hid hy4
      clear hy4 hbD
      refine wp_region_held_drew (S := fun w' => BK 26 w' g5 (quC s n (.slice A5 ys.length c5))) (by kernel_rfl) hbd (fun hHeld => ?_)
      rw [← HWD.out]
      clear hHeld
      have hHeld := hSD
      clear hSD hbd HWD
      refine wpAnyH_take (i := 0) (v := (.slice A1 fs.length c1)) (get_ops _ _ _ rfl) (by kernel_rfl) (by kernel_rfl) (by kernel_rfl) (fun _ _ _ h => h) (Or.inl ⟨by rfl, fun wS hSw => by (try dsimp only at hSw); go_simp⟩) hHeld ?_
      try simp only [Act.put, List.setIfInBounds_toArray, List.set_cons_zero, List.set_cons_succ]
      refine wpAnyH_take (i := 1) (v := (.agg (quC s n (.slice A5 ys.length c5)).toArray)) (get_ops _ _ _ rfl) (by kernel_rfl) (by kernel_rfl) (by kernel_rfl) (fun _ _ _ h => h) (Or.inl ⟨by rfl, fun wS hSw => by (try dsimp only at hSw); exact exec_load 26 _ rfl ⟨g5, 0, none⟩ (by go_simp) _ (load_qu hSw)⟩) hHeld ?_
      try simp only [Act.put, List.setIfInBounds_toArray, List.set_cons_zero, List.set_cons_succ]
      refine wpAnyH_take (i := 2) (v := (.slice A1 fs.length c1)) (get_ops _ _ _ rfl) (by kernel_rfl) (by kernel_rfl) (by kernel_rfl) (fun _ _ _ h => h) (Or.inl ⟨by rfl, fun wS hSw => by (try dsimp only at hSw); go_simp⟩) hHeld ?_
      try simp only [Act.put, List.setIfInBounds_toArray, List.set_cons_zero, List.set_cons_succ]
      refine wpAnyH_ready (rs := [3]) (by kernel_rfl) (by simp) ?_
      refine (AllReadyH.cons (get_ops _ _ _ rfl) (fun K hK => ?_) AllReadyH.nil)
      refine S2.wp_store_all 26 _ _ rfl rfl g2 (by go_simp) (quC s n (.slice A5 ys.length c5)) (by first | rfl | go_simp) 26 _ R_y4.out quSize rfl (quC_one _ rfl) ?_
      intro y5 hM hP
      have R_y5 : Hid (BK 26 y5 g2 (quC s n (.slice A5 ys.length c5))) := Lib.hid (hM)
      have T_y5 : Hid (BK 26 y5 g5 (quC s n (.slice A5 ys.length c5))) := Lib.hid (hP.other T_y4.out (by have h1 := HRS.out; omega))
      have U_y5 : Hid (TwL B0 wr.heap.size y5 (.slice A1 fs.length c1) fs (.slice A5 ys.length c5) ys) := Lib.hid (TwL.put U_y4.out hP HG1B.out.2)
      have B_y5 : Hid (Below w.heap.size w y5) := Lib.hid (hP.below B_y4.out (by have := HG12.out; omega))
      clear T_y4 U_y4 R_y4 B_y4
      clear hM hP hHeld
      refine hK.out _ _ T_y5.out (fun hHeld => ?_)
      clear hK K
      try simp only [Act.put, List.setIfInBounds_toArray, List.set_cons_zero, List.set_cons_succ]
      refine wpAnyH_done (by kernel_rfl) ?_ _
      go_wp2_with fail
      obtain ⟨A7, k7, A8, k8, e7, e8, l7, l8, n7, n8⟩ := two_ret U_y5.out.1 U_y5.out.2.2
      obtain ⟨rfl, _, rfl⟩ := Value.slice.inj e7
      obtain ⟨rfl, _, rfl⟩ := Value.slice.inj e8
      exact bodyPost_ret (v := .tuple #[.slice A1 fs.length c1, quV s n (.slice A5 ys.length c5)]) (res_tc rfl _ _ g2 26 (quC s n (.slice A5 ys.length c5)) _ _ rfl rfl R_y5.out Tryd.underlying26 rfl quSize) rfl ⟨A1, c1, fs, A5, c5, ys, rfl, by rw [HFS.out, List.take_of_length_le (by simp)], by rw [HYS.out, List.take_of_length_le (by simp)], l7, l8, n7.weak HWB.out, n8.weak HWB.out, B_y5.out⟩
    | succ g =>
      have hlt : j < l.length := by omega
      have e3 : decide ((j : Int) < (l.length : Int)) = true := decide_eq_true (by omega)
      obtain ⟨y, hy⟩ : ∃ y, l[j]? = some y := ⟨_, List.getElem?_eq_getElem hlt⟩
      have HY1 : Hid ((l.map EE.x)[j]? = some y.x) := Lib.hid (by rw [List.getElem?_map, hy]; rfl)
      obtain ⟨b, o, hA3, hbB, hcl, hpl⟩ := (HS.out.step B_wr.out).at_ hy
      have HLD := Lib.hid (load_ent hcl)
      unfold enW enV at HLD
      have HYP : Hid (y.x.m.props.length ≤ 4398046511104) := Lib.hid (HPP.out y (List.mem_of_getElem? hy))
      have HEY := Lib.hid (fun w1 => HE.out y w1 (HRR.out y (List.mem_of_getElem? hy)))
      have HYPL : Hid (∀ w', Below w.heap.size w w' → PL w' w'.heap.size y.a y.x.m.props) := Lib.hid (fun w' h' => (HS.out.step h').2 y (List.mem_of_getElem? hy))
      subst hA3
      have j1 : (0 : Int) ≤ (j : Int) := by omega
      have j2 : (j : Int) < (l.length : Int) := by omega
      have hlk : j ≤ 1000000 := by have := HL.out; omega
      clear hcl hpl hbB hy hjg
      obtain ⟨N0, hN0⟩ : ∃ k, k = wr.heap.size := ⟨_, rfl⟩
      have HBN : Hid (B0 ≤ N0) := Lib.hid (by rw [hN0]; exact HZZ.out)
      have HZ0 : Hid (N0 ≤ wr.heap.size) := Lib.hid (by rw [hN0]; exact Nat.le_refl _)
      rw [← hN0] at U_wr
      have Z_wr : Hid (N0 ≤ wr.heap.size) := Lib.hid (by rw [hN0]; exact Nat.le_refl _)
      have HLN : Hid (fs.length ≤ 100000 ∧ ys.length ≤ 100000) := Lib.hid (by have h1 := congrArg List.length HYS.out; have h0 := congrArg List.length HFS.out; have h3 : (leftQ s now ((l.map EE.x).take j)).length ≤ j := Nat.le_trans (List.length_filter_le _ _) (List.length_take_le _ _); have h4 : (goneQ s now ((l.map EE.x).take j)).length ≤ j := Nat.le_trans (List.length_filter_le _ _) (List.length_take_le _ _); rw [List.length_map] at h1 h0; have h2 := HL.out; have h5 := HJ.out; omega)
      clear hN0
      go_upto_region 7 with first
        | (refine wpList_load_v (by rfl) 34 _ rfl ⟨b, o + j * 12, none⟩ (by simp [Act.eval, Act.put]) _ HLD.out ?_)
        | (refine S2.wpList_store_all (by rfl) 34 (.tmp 9) (.tmp 19) rfl rfl (wr.heap.size) rfl (gE y) rfl 34 (enX En.zero none 0) (BK.new wr _ _) enSize rfl (ones rfl) ?_; intro y5 hM hP; have hb : Below wr.heap.size wr y5 := hP.below (S2.below_new wr _) (Nat.le_refl _); have T_y5 : Hid (BK 26 y5 g5 (quC s n (.slice A5 ys.length c5))) := Lib.hid (T_wr.out.step hb); have U_y5 : Hid (TwL B0 N0 y5 (.slice A1 fs.length c1) fs (.slice A5 ys.length c5) ys) := Lib.hid (TwL.step U_wr.out hb); have Q_y5 : Hid (BK 26 y5 g1 (quC s n (.slice (some ⟨b, o, none⟩) l.length c))) := Lib.hid (Q_wr.out.step hb); have R_y5 : Hid (BK 26 y5 g2 (quC Sp.zero 0 (.slice none 0 0))) := Lib.hid (R_wr.out.step hb); have B_y5 : Hid (Below w.heap.size w y5) := Lib.hid (stepB B_wr.out hb); have Z_y5 : Hid (N0 ≤ y5.heap.size) := Lib.hid (Nat.le_trans Z_wr.out hb.size); have V_y5 : Hid (BK 34 y5 (wr.heap.size) (gE y)) := Lib.hid hM; clear hM hP hb T_wr U_wr Q_wr R_wr B_wr Z_wr)
      obtain ⟨gx, hgx⟩ : ∃ b, b = wr.heap.size := ⟨_, rfl⟩
      have HGX : Hid (N0 ≤ gx) := Lib.hid (by rw [hgx]; exact HZ0.out)
      rw [← hgx] at V_y5
      try rw [← hgx]
      clear hgx HLD e3 j1 j2 hlk hlt
      obtain ⟨hgs, hls⟩ := gone_succ s now HY1.out
      have HGS := Lib.hid hgs
      have HLS := Lib.hid hls
      clear hgs hls
      obtain ⟨eb, heb⟩ : ∃ b, expX s.ttl y.x.r y.x.m now = b := ⟨_, rfl⟩
      rw [heb] at HEY HGS HLS
      clear heb
      go_wp2_with first
        | (refine wpList_load_v (by rfl) 23 (.tmp 20) rfl ⟨g1, 0, none⟩ rfl (.agg (spC s).toArray) (load_qsp Q_y5.out) ?_)
        | (refine wpList_load_v (by rfl) 34 (.tmp 9) rfl ⟨gx, 0, none⟩ rfl (.agg (gE y).toArray) (load_en0 V_y5.out) ?_)
      refine (HEY.out y5).mono ?_
      rintro e y6 ⟨rfl, hb⟩
      have T_y6 : Hid (BK 26 y6 g5 (quC s n (.slice A5 ys.length c5))) := Lib.hid (T_y5.out.step hb)
      have U_y6 : Hid (TwL B0 N0 y6 (.slice A1 fs.length c1) fs (.slice A5 ys.length c5) ys) := Lib.hid (TwL.step U_y5.out hb)
      have Q_y6 : Hid (BK 26 y6 g1 (quC s n (.slice (some ⟨b, o, none⟩) l.length c))) := Lib.hid (Q_y5.out.step hb)
      have R_y6 : Hid (BK 26 y6 g2 (quC Sp.zero 0 (.slice none 0 0))) := Lib.hid (R_y5.out.step hb)
      have B_y6 : Hid (Below w.heap.size w y6) := Lib.hid (stepB B_y5.out hb)
      have Z_y6 : Hid (N0 ≤ y6.heap.size) := Lib.hid (Nat.le_trans Z_y5.out hb.size)
      have V_y6 : Hid (BK 34 y6 gx (gE y)) := Lib.hid (V_y5.out.step hb)
      clear T_y5 U_y5 Q_y5 R_y5 B_y5 Z_y5 V_y5
      clear hb
      cases eb with
      | true =>
        have HZ6 : Hid (N0 ≤ y6.heap.size) := Lib.hid Z_y6.out
        go_wp2_with first
          | (refine wpList_load_v (by rfl) 34 (.tmp 9) rfl ⟨gx, 0, none⟩ rfl (.agg (gE y).toArray) (load_en0 V_y6.out) ?_)
        refine (HCE.out y.x y.a y.c y6 (HYPL.out _ B_y6.out) HYP.out).mono ?_
        rintro e y7 ⟨a6, ac6, rfl, hpl, hnl, hb⟩
        have T_y7 : Hid (BK 26 y7 g5 (quC s n (.slice A5 ys.length c5))) := Lib.hid (T_y6.out.step hb)
        have U_y7 : Hid (TwL B0 N0 y7 (.slice A1 fs.length c1) fs (.slice A5 ys.length c5) ys) := Lib.hid (TwL.step U_y6.out hb)
        have Q_y7 : Hid (BK 26 y7 g1 (quC s n (.slice (some ⟨b, o, none⟩) l.length c))) := Lib.hid (Q_y6.out.step hb)
        have R_y7 : Hid (BK 26 y7 g2 (quC Sp.zero 0 (.slice none 0 0))) := Lib.hid (R_y6.out.step hb)
        have B_y7 : Hid (Below w.heap.size w y7) := Lib.hid (stepB B_y6.out hb)
        have Z_y7 : Hid (N0 ≤ y7.heap.size) := Lib.hid (Nat.le_trans Z_y6.out hb.size)
        have V_y7 : Hid (BK 34 y7 gx (gE y)) := Lib.hid (V_y6.out.step hb)
        clear T_y6 U_y6 Q_y6 R_y6 B_y6 Z_y6 V_y6
        have P_y7 : Hid (PN y7 y6.heap.size a6 y.x.m.props) := Lib.hid ⟨hpl, hnl⟩
        have HW6 : Hid (y6.heap.size ≤ y7.heap.size) := Lib.hid hb.size
        clear hpl hnl
        clear hb
        have w1a : j ≤ 1000000 := by have h1 := HJ.out; have h2 := HL.out; omega
        go_wp2_with first
          | (at_builtin; refine wpList_twl (B := B0) (N := N0) (Bp := y6.heap.size) y7 rfl _ _ rfl (.slice A5 ys.length c5) (.slice A1 fs.length c1) ys fs (⟨y.x, a6, ac6⟩ : EE) (by rfl) U_y7.out.symm (by rfl) P_y7.out.1 P_y7.out.2 HBN.out HZ6.out HW6.out HLN.out.1 ?_; intro v9 w9 hO hK hsz; have U_w9 := Lib.hid hO.symm; have T_w9 : Hid (BK 26 w9 g5 (quC s n (.slice A5 ys.length c5))) := Lib.hid (hK.bk T_y7.out (Or.inl HG5.out)); have Q_w9 : Hid (BK 26 w9 g1 (quC s n (.slice (some ⟨b, o, none⟩) l.length c))) := Lib.hid (hK.bk Q_y7.out (Or.inl HG1B.out.1)); have R_w9 : Hid (BK 26 w9 g2 (quC Sp.zero 0 (.slice none 0 0))) := Lib.hid (hK.bk R_y7.out (Or.inl HG1B.out.2)); have B_w9 : Hid (Below w.heap.size w w9) := Lib.hid (hK.below B_y7.out HWB.out); have Z_w9 : Hid (N0 ≤ w9.heap.size) := Lib.hid (Nat.le_trans (Nat.le_trans HZ6.out HW6.out) hsz); clear hO hK hsz)
        obtain ⟨A7, k7, A8, k8, e7, _, _, _, _, _⟩ := two_ret U_w9.out.1 U_w9.out.2.2
        subst e7
        go_roundg g
        case measure => omega
        case rel => exact ⟨j + 1, A7, k7, fs ++ [(⟨y.x, a6, ac6⟩ : EE)], A5, c5, ys, by have := HJ.out; omega, by go_num, rfl, T_w9.out, U_w9.out, by rw [List.map_append, HFS.out, HGS.out]; rfl, by rw [HYS.out, HLS.out]; simp, Q_w9.out, R_w9.out, B_w9.out, Nat.le_trans HBN.out Z_w9.out⟩
      | false =>
        go_upto_region 9 with fail
        have C_y6 : Hid (Below y6.heap.size y6 y6) := Lib.hid (Below.refl _ _)
        have HZW : Hid (N0 ≤ y6.heap.size) := Lib.hid Z_y6.out
        clear Z_y6
        obtain ⟨y8, hy8⟩ : ∃ y8, y8 = World.drew y6 := ⟨_, rfl⟩
        have hbD : Below y6.heap.size y6 y8 := by rw [hy8]; exact (Below.refl _ _).drew
        have T_y8 : Hid (BK 26 y8 g5 (quC s n (.slice A5 ys.length c5))) := Lib.hid (T_y6.out.step hbD)
        have U_y8 : Hid (TwL B0 N0 y8 (.slice A1 fs.length c1) fs (.slice A5 ys.length c5) ys) := Lib.hid (TwL.step U_y6.out hbD)
        have Q_y8 : Hid (BK 26 y8 g1 (quC s n (.slice (some ⟨b, o, none⟩) l.length c))) := Lib.hid (Q_y6.out.step hbD)
        have R_y8 : Hid (BK 26 y8 g2 (quC Sp.zero 0 (.slice none 0 0))) := Lib.hid (R_y6.out.step hbD)
        have B_y8 : Hid (Below w.heap.size w y8) := Lib.hid (stepB B_y6.out hbD)
        have V_y8 : Hid (BK 34 y8 gx (gE y)) := Lib.hid (V_y6.out.step hbD)
        have C_y8 : Hid (Below y6.heap.size y6 y8) := Lib.hid (stepB C_y6.out hbD)
        clear T_y6 U_y6 Q_y6 R_y6 B_y6 V_y6 C_y6
        have hbd : (fun w' => Below w.heap.size w w') (World.drew y6) := by rw [← hy8]; exact B_y8.out
        have hSD : (fun w' => Below w.heap.size w w') y8 := B_y8.out
        have HWD := Lib.hid hy8
        clear hy8 hbD
        refine wp_region_held_drew (S := fun w' => Below w.heap.size w w') (by kernel_rfl) hbd (fun hHeld => ?_)
        rw [← HWD.out]
        clear hHeld
        have hHeld := hSD
        clear hSD hbd HWD
        refine wpAnyH_take (i := 0) (v := (.pointer (some ⟨g5, 6, none⟩))) (get_ops _ _ _ rfl) (by kernel_rfl) (by kernel_rfl) (by kernel_rfl) (fun _ _ _ h => h) (Or.inl ⟨by rfl, fun wS hSw => by (try dsimp only at hSw); go_simp⟩) hHeld ?_
        try simp only [Act.put, List.setIfInBounds_toArray, List.set_cons_zero, List.set_cons_succ]
        refine wpAnyH_ready (rs := [1, 2]) (by kernel_rfl) (by simp) ?_
        refine (AllReadyH.cons (get_ops _ _ _ rfl) (fun K hK => ?_) (AllReadyH.cons (get_ops _ _ _ rfl) (fun K hK => ?_) AllReadyH.nil))
        · refine wp_load2 24 _ rfl ⟨g5, 6, none⟩ (by first | rfl | go_simp) (.slice A5 ys.length c5) (by have cS := T_y8.out.cell 6 rfl; go_simp) ?_
          clear hHeld
          refine hK.out _ _ B_y8.out (fun hHeld => ?_)
          clear hK K
          try simp only [Act.put, List.setIfInBounds_toArray, List.set_cons_zero, List.set_cons_succ]
          refine wpAnyH_ready (rs := [2]) (by kernel_rfl) (by simp) ?_
          refine (AllReadyH.cons (get_ops _ _ _ rfl) (fun K hK => ?_) AllReadyH.nil)
          refine wp_load2 34 _ rfl ⟨gx, 0, none⟩ (by first | rfl | go_simp) (.agg (gE y).toArray) (load_en0 V_y8.out) ?_
          clear hHeld
          refine hK.out _ _ B_y8.out (fun hHeld => ?_)
          clear hK K
          try simp only [Act.put, List.setIfInBounds_toArray, List.set_cons_zero, List.set_cons_succ]
          refine wpAnyH_ready (rs := [3]) (by kernel_rfl) (by simp) ?_
          refine (AllReadyH.cons (get_ops _ _ _ rfl) (fun K hK => ?_) AllReadyH.nil)
          have HZ6 : Hid (N0 ≤ y8.heap.size) := Lib.hid (Nat.le_trans HZW.out C_y8.out.size)
          go_simp
          refine (HCE.out y.x y.a y.c y8 (HYPL.out _ B_y8.out) HYP.out).mono ?_
          rintro e y9 ⟨a6, ac6, rfl, hpl, hnl, hb⟩
          have T_y9 : Hid (BK 26 y9 g5 (quC s n (.slice A5 ys.length c5))) := Lib.hid (T_y8.out.step hb)
          have U_y9 : Hid (TwL B0 N0 y9 (.slice A1 fs.length c1) fs (.slice A5 ys.length c5) ys) := Lib.hid (TwL.step U_y8.out hb)
          have Q_y9 : Hid (BK 26 y9 g1 (quC s n (.slice (some ⟨b, o, none⟩) l.length c))) := Lib.hid (Q_y8.out.step hb)
          have R_y9 : Hid (BK 26 y9 g2 (quC Sp.zero 0 (.slice none 0 0))) := Lib.hid (R_y8.out.step hb)
          have B_y9 : Hid (Below w.heap.size w y9) := Lib.hid (stepB B_y8.out hb)
          have V_y9 : Hid (BK 34 y9 gx (gE y)) := Lib.hid (V_y8.out.step hb)
          have C_y9 : Hid (Below y6.heap.size y6 y9) := Lib.hid (stepB C_y8.out hb)
          clear T_y8 U_y8 Q_y8 R_y8 B_y8 V_y8 C_y8
          have P_y9 : Hid (PN y9 y8.heap.size a6 y.x.m.props) := Lib.hid ⟨hpl, hnl⟩
          have Y_y9 : Hid (y8.heap.size ≤ y9.heap.size) := Lib.hid hb.size
          clear hpl hnl
          clear hHeld hb
          go_wp2_with fail
          refine hK.out _ _ B_y9.out (fun hHeld => ?_)
          clear hK K
          try simp only [Act.put, List.setIfInBounds_toArray, List.set_cons_zero, List.set_cons_succ]
          refine wpAnyH_ready (rs := [4]) (by kernel_rfl) (by simp) ?_
          refine (AllReadyH.cons (get_ops _ _ _ rfl) (fun K hK => ?_) AllReadyH.nil)
          go_simp
          obtain ⟨vb, hvb⟩ : ∃ n, n = y9.heap.size := ⟨_, rfl⟩
          refine name_world (C := fun w9 => K _ w9) (y9.alloc (.cells (gE (⟨y.x, a6, ac6⟩ : EE)).toArray 34)) ?_
          intro y10 hy10
          have hb : Below y9.heap.size y9 y10 := by rw [hy10]; exact S2.below_new _ _
          have hN : BK 34 y10 vb (gE (⟨y.x, a6, ac6⟩ : EE)) := by rw [hy10, hvb]; exact BK.new _ _ _
          have T_y10 : Hid (BK 26 y10 g5 (quC s n (.slice A5 ys.length c5))) := Lib.hid (T_y9.out.step hb)
          have U_y10 : Hid (TwL B0 N0 y10 (.slice A1 fs.length c1) fs (.slice A5 ys.length c5) ys) := Lib.hid (TwL.step U_y9.out hb)
          have Q_y10 : Hid (BK 26 y10 g1 (quC s n (.slice (some ⟨b, o, none⟩) l.length c))) := Lib.hid (Q_y9.out.step hb)
          have R_y10 : Hid (BK 26 y10 g2 (quC Sp.zero 0 (.slice none 0 0))) := Lib.hid (R_y9.out.step hb)
          have B_y10 : Hid (Below w.heap.size w y10) := Lib.hid (stepB B_y9.out hb)
          have V_y10 : Hid (BK 34 y10 gx (gE y)) := Lib.hid (V_y9.out.step hb)
          have C_y10 : Hid (Below y6.heap.size y6 y10) := Lib.hid (stepB C_y9.out hb)
          have P_y10 : Hid (PN y10 y8.heap.size a6 y.x.m.props) := Lib.hid (PN.step P_y9.out hb)
          have Y_y10 : Hid (y8.heap.size ≤ y10.heap.size) := Lib.hid (Nat.le_trans Y_y9.out hb.size)
          clear T_y9 U_y9 Q_y9 R_y9 B_y9 V_y9 C_y9 P_y9 Y_y9
          have X_y10 := Lib.hid hN
          try rw [← hvb]
          clear hHeld hb hN hy10 hvb
          refine hK.out _ _ B_y10.out (fun hHeld => ?_)
          clear hK K
          try simp only [Act.put, List.setIfInBounds_toArray, List.set_cons_zero, List.set_cons_succ]
          refine wpAnyH_ready (rs := [5]) (by kernel_rfl) (by simp) ?_
          refine (AllReadyH.cons (get_ops _ _ _ rfl) (fun K hK => ?_) AllReadyH.nil)
          refine oper_twl (B := B0) (N := N0) (Bp := y8.heap.size) _ _ rfl (.slice A1 fs.length c1) (.slice A5 ys.length c5) fs ys (⟨y.x, a6, ac6⟩ : EE) (by go_simp) U_y10.out (by go_simp) X_y10.out P_y10.out.1 P_y10.out.2 HBN.out HZ6.out Y_y10.out HLN.out.2 ?_
          intro v6 y11 hO hK9 hsz9
          obtain ⟨_, _, A6, c6, _, e6, _, _, _, _⟩ := two_ret hO.1 hO.2.2
          subst e6
          have T_y11 : Hid (BK 26 y11 g5 (quC s n (.slice A5 ys.length c5))) := Lib.hid (hK9.bk T_y10.out (Or.inl HG5.out))
          have Q_y11 : Hid (BK 26 y11 g1 (quC s n (.slice (some ⟨b, o, none⟩) l.length c))) := Lib.hid (hK9.bk Q_y10.out (Or.inl HG1B.out.1))
          have R_y11 : Hid (BK 26 y11 g2 (quC Sp.zero 0 (.slice none 0 0))) := Lib.hid (hK9.bk R_y10.out (Or.inl HG1B.out.2))
          have B_y11 : Hid (Below w.heap.size w y11) := Lib.hid (hK9.below B_y10.out HWB.out)
          have U_y11 : Hid (TwL B0 y11.heap.size y11 (.slice A1 fs.length c1) fs (.slice A6 (ys ++ [(⟨y.x, a6, ac6⟩ : EE)]).length c6) (ys ++ [(⟨y.x, a6, ac6⟩ : EE)])) := Lib.hid hO
          have Z_y11 : Hid (N0 ≤ y11.heap.size) := Lib.hid (Nat.le_trans (Nat.le_trans HZ6.out Y_y10.out) hsz9)
          have S_y11 : Hid (y11.heap.size ≤ y11.heap.size) := Lib.hid (Nat.le_refl _)
          clear hO hK9 hsz9 hHeld T_y10 U_y10 Q_y10 R_y10 B_y10 V_y10 C_y10 P_y10 Y_y10 X_y10
          refine hK.out _ _ B_y11.out (fun hHeld => ?_)
          clear hK K
          try simp only [Act.put, List.setIfInBounds_toArray, List.set_cons_zero, List.set_cons_succ]
          refine wpAnyH_take (i := 6) (v := (.pointer (some ⟨g5, 6, none⟩))) (get_ops _ _ _ rfl) (by kernel_rfl) (by kernel_rfl) (by kernel_rfl) (fun _ _ _ h => h) (Or.inl ⟨by rfl, fun wS hSw => by (try dsimp only at hSw); go_simp⟩) hHeld ?_
          try simp only [Act.put, List.setIfInBounds_toArray, List.set_cons_zero, List.set_cons_succ]
          refine wpAnyH_ready (rs := [7]) (by kernel_rfl) (by simp) ?_
          refine (AllReadyH.cons (get_ops _ _ _ rfl) (fun K hK => ?_) AllReadyH.nil)
          refine wp_store 24 _ _ rfl rfl ⟨g5, 6, none⟩ (by go_simp) (.slice A6 (ys ++ [(⟨y.x, a6, ac6⟩ : EE)]).length c6) (by first | rfl | go_simp) _ (run_store_part y11 g5 6 1 26 24 (quC s n (.slice A5 ys.length c5)) [(.slice A6 (ys ++ [(⟨y.x, a6, ac6⟩ : EE)]).length c6)] _ rfl rfl (by kernel_rfl) T_y11.out (by show 6 + 1 ≤ 7; decide) (ones rfl)) ?_
          have hM : BK 26 (y11.setRow g5 (putC (quC s n (.slice A5 ys.length c5)) 6 [(.slice A6 (ys ++ [(⟨y.x, a6, ac6⟩ : EE)]).length c6)]).toArray) g5 (quC s n (.slice A6 (ys ++ [(⟨y.x, a6, ac6⟩ : EE)]).length c6)) := MT.put T_y11.out 6 [(.slice A6 (ys ++ [(⟨y.x, a6, ac6⟩ : EE)]).length c6)]
          have hP := S2.put_row y11 g5 (putC (quC s n (.slice A5 ys.length c5)) 6 [(.slice A6 (ys ++ [(⟨y.x, a6, ac6⟩ : EE)]).length c6)]).toArray
          refine name_world (C := fun w9 => K _ w9) _ ?_
          intro y12 hy12
          rw [← hy12] at hM hP
          clear hy12
          have T_y12 : Hid (BK 26 y12 g5 (quC s n (.slice A6 (ys ++ [(⟨y.x, a6, ac6⟩ : EE)]).length c6))) := Lib.hid (hM)
          have U_y12 : Hid (TwL B0 y11.heap.size y12 (.slice A1 fs.length c1) fs (.slice A6 (ys ++ [(⟨y.x, a6, ac6⟩ : EE)]).length c6) (ys ++ [(⟨y.x, a6, ac6⟩ : EE)])) := Lib.hid (TwL.put U_y11.out hP HG5.out)
          have Q_y12 : Hid (BK 26 y12 g1 (quC s n (.slice (some ⟨b, o, none⟩) l.length c))) := Lib.hid (hP.other Q_y11.out (by have h1 := HRS.out; have h2 := HG12.out; omega))
          have R_y12 : Hid (BK 26 y12 g2 (quC Sp.zero 0 (.slice none 0 0))) := Lib.hid (hP.other R_y11.out (by have h1 := HRS.out; omega))
          have B_y12 : Hid (Below w.heap.size w y12) := Lib.hid (hP.below B_y11.out HW5.out)
          have Z_y12 : Hid (N0 ≤ y12.heap.size) := Lib.hid (by have h9 := hP.size; have h8 := Z_y11.out; omega)
          have S_y12 : Hid (y11.heap.size ≤ y12.heap.size) := Lib.hid (by have h9 := hP.size; have h8 := S_y11.out; omega)
          clear T_y11 U_y11 Q_y11 R_y11 B_y11 Z_y11 S_y11
          clear hM hP hHeld
          refine hK.out _ _ B_y12.out (fun hHeld => ?_)
          clear hK K
          try simp only [Act.put, List.setIfInBounds_toArray, List.set_cons_zero, List.set_cons_succ]
          refine wpAnyH_done (by kernel_rfl) ?_ _
          have w1a : j ≤ 1000000 := by have h1 := HJ.out; have h2 := HL.out; omega
          go_wp2
          go_roundg g
          case measure => omega
          case rel => exact ⟨j + 1, A1, c1, fs, A6, c6, ys ++ [(⟨y.x, a6, ac6⟩ : EE)], by have := HJ.out; omega, by go_num, rfl, T_y12.out, U_y12.out.more S_y12.out, by rw [HFS.out, HGS.out]; simp, by rw [List.map_append, HYS.out, HLS.out]; rfl, Q_y12.out, R_y12.out, B_y12.out, Nat.le_trans HBN.out Z_y12.out⟩
        · refine wp_load2 34 _ rfl ⟨gx, 0, none⟩ (by first | rfl | go_simp) (.agg (gE y).toArray) (load_en0 V_y8.out) ?_
          clear hHeld
          refine hK.out _ _ B_y8.out (fun hHeld => ?_)
          clear hK K
          try simp only [Act.put, List.setIfInBounds_toArray, List.set_cons_zero, List.set_cons_succ]
          refine wpAnyH_ready (rs := [1, 3]) (by kernel_rfl) (by simp) ?_
          refine (AllReadyH.cons (get_ops _ _ _ rfl) (fun K hK => ?_) (AllReadyH.cons (get_ops _ _ _ rfl) (fun K hK => ?_) AllReadyH.nil))
          · refine wp_load2 24 _ rfl ⟨g5, 6, none⟩ (by first | rfl | go_simp) (.slice A5 ys.length c5) (by have cS := T_y8.out.cell 6 rfl; go_simp) ?_
            clear hHeld
            refine hK.out _ _ B_y8.out (fun hHeld => ?_)
            clear hK K
            try simp only [Act.put, List.setIfInBounds_toArray, List.set_cons_zero, List.set_cons_succ]
            refine wpAnyH_ready (rs := [3]) (by kernel_rfl) (by simp) ?_
            refine (AllReadyH.cons (get_ops _ _ _ rfl) (fun K hK => ?_) AllReadyH.nil)
            have HZ6 : Hid (N0 ≤ y8.heap.size) := Lib.hid (Nat.le_trans HZW.out C_y8.out.size)
            go_simp
            refine (HCE.out y.x y.a y.c y8 (HYPL.out _ B_y8.out) HYP.out).mono ?_
            rintro e y9 ⟨a6, ac6, rfl, hpl, hnl, hb⟩
            have T_y9 : Hid (BK 26 y9 g5 (quC s n (.slice A5 ys.length c5))) := Lib.hid (T_y8.out.step hb)
            have U_y9 : Hid (TwL B0 N0 y9 (.slice A1 fs.length c1) fs (.slice A5 ys.length c5) ys) := Lib.hid (TwL.step U_y8.out hb)
            have Q_y9 : Hid (BK 26 y9 g1 (quC s n (.slice (some ⟨b, o, none⟩) l.length c))) := Lib.hid (Q_y8.out.step hb)
            have R_y9 : Hid (BK 26 y9 g2 (quC Sp.zero 0 (.slice none 0 0))) := Lib.hid (R_y8.out.step hb)
            have B_y9 : Hid (Below w.heap.size w y9) := Lib.hid (stepB B_y8.out hb)
            have V_y9 : Hid (BK 34 y9 gx (gE y)) := Lib.hid (V_y8.out.step hb)
            have C_y9 : Hid (Below y6.heap.size y6 y9) := Lib.hid (stepB C_y8.out hb)
            clear T_y8 U_y8 Q_y8 R_y8 B_y8 V_y8 C_y8
            have P_y9 : Hid (PN y9 y8.heap.size a6 y.x.m.props) := Lib.hid ⟨hpl, hnl⟩
            have Y_y9 : Hid (y8.heap.size ≤ y9.heap.size) := Lib.hid hb.size
            clear hpl hnl
            clear hHeld hb
            go_wp2_with fail
            refine hK.out _ _ B_y9.out (fun hHeld => ?_)
            clear hK K
            try simp only [Act.put, List.setIfInBounds_toArray, List.set_cons_zero, List.set_cons_succ]
            refine wpAnyH_ready (rs := [4]) (by kernel_rfl) (by simp) ?_
            refine (AllReadyH.cons (get_ops _ _ _ rfl) (fun K hK => ?_) AllReadyH.nil)
            go_simp
            obtain ⟨vb, hvb⟩ : ∃ n, n = y9.heap.size := ⟨_, rfl⟩
            refine name_world (C := fun w9 => K _ w9) (y9.alloc (.cells (gE (⟨y.x, a6, ac6⟩ : EE)).toArray 34)) ?_
            intro y10 hy10
            have hb : Below y9.heap.size y9 y10 := by rw [hy10]; exact S2.below_new _ _
            have hN : BK 34 y10 vb (gE (⟨y.x, a6, ac6⟩ : EE)) := by rw [hy10, hvb]; exact BK.new _ _ _
            have T_y10 : Hid (BK 26 y10 g5 (quC s n (.slice A5 ys.length c5))) := Lib.hid (T_y9.out.step hb)
            have U_y10 : Hid (TwL B0 N0 y10 (.slice A1 fs.length c1) fs (.slice A5 ys.length c5) ys) := Lib.hid (TwL.step U_y9.out hb)
            have Q_y10 : Hid (BK 26 y10 g1 (quC s n (.slice (some ⟨b, o, none⟩) l.length c))) := Lib.hid (Q_y9.out.step hb)
            have R_y10 : Hid (BK 26 y10 g2 (quC Sp.zero 0 (.slice none 0 0))) := Lib.hid (R_y9.out.step hb)
            have B_y10 : Hid (Below w.heap.size w y10) := Lib.hid (stepB B_y9.out hb)
            have V_y10 : Hid (BK 34 y10 gx (gE y)) := Lib.hid (V_y9.out.step hb)
            have C_y10 : Hid (Below y6.heap.size y6 y10) := Lib.hid (stepB C_y9.out hb)
            have P_y10 : Hid (PN y10 y8.heap.size a6 y.x.m.props) := Lib.hid (PN.step P_y9.out hb)
            have Y_y10 : Hid (y8.heap.size ≤ y10.heap.size) := Lib.hid (Nat.le_trans Y_y9.out hb.size)
            clear T_y9 U_y9 Q_y9 R_y9 B_y9 V_y9 C_y9 P_y9 Y_y9
            have X_y10 := Lib.hid hN
            try rw [← hvb]
            clear hHeld hb hN hy10 hvb
            refine hK.out _ _ B_y10.out (fun hHeld => ?_)
            clear hK K
            try simp only [Act.put, List.setIfInBounds_toArray, List.set_cons_zero, List.set_cons_succ]
            refine wpAnyH_ready (rs := [5]) (by kernel_rfl) (by simp) ?_
            refine (AllReadyH.cons (get_ops _ _ _ rfl) (fun K hK => ?_) AllReadyH.nil)
            refine oper_twl (B := B0) (N := N0) (Bp := y8.heap.size) _ _ rfl (.slice A1 fs.length c1) (.slice A5 ys.length c5) fs ys (⟨y.x, a6, ac6⟩ : EE) (by go_simp) U_y10.out (by go_simp) X_y10.out P_y10.out.1 P_y10.out.2 HBN.out HZ6.out Y_y10.out HLN.out.2 ?_
            intro v6 y11 hO hK9 hsz9
            obtain ⟨_, _, A6, c6, _, e6, _, _, _, _⟩ := two_ret hO.1 hO.2.2
            subst e6
            have T_y11 : Hid (BK 26 y11 g5 (quC s n (.slice A5 ys.length c5))) := Lib.hid (hK9.bk T_y10.out (Or.inl HG5.out))
            have Q_y11 : Hid (BK 26 y11 g1 (quC s n (.slice (some ⟨b, o, none⟩) l.length c))) := Lib.hid (hK9.bk Q_y10.out (Or.inl HG1B.out.1))
            have R_y11 : Hid (BK 26 y11 g2 (quC Sp.zero 0 (.slice none 0 0))) := Lib.hid (hK9.bk R_y10.out (Or.inl HG1B.out.2))
            have B_y11 : Hid (Below w.heap.size w y11) := Lib.hid (hK9.below B_y10.out HWB.out)
            have U_y11 : Hid (TwL B0 y11.heap.size y11 (.slice A1 fs.length c1) fs (.slice A6 (ys ++ [(⟨y.x, a6, ac6⟩ : EE)]).length c6) (ys ++ [(⟨y.x, a6, ac6⟩ : EE)])) := Lib.hid hO
            have Z_y11 : Hid (N0 ≤ y11.heap.size) := Lib.hid (Nat.le_trans (Nat.le_trans HZ6.out Y_y10.out) hsz9)
            have S_y11 : Hid (y11.heap.size ≤ y11.heap.size) := Lib.hid (Nat.le_refl _)
            clear hO hK9 hsz9 hHeld T_y10 U_y10 Q_y10 R_y10 B_y10 V_y10 C_y10 P_y10 Y_y10 X_y10
            refine hK.out _ _ B_y11.out (fun hHeld => ?_)
            clear hK K
            try simp only [Act.put, List.setIfInBounds_toArray, List.set_cons_zero, List.set_cons_succ]
            refine wpAnyH_take (i := 6) (v := (.pointer (some ⟨g5, 6, none⟩))) (get_ops _ _ _ rfl) (by kernel_rfl) (by kernel_rfl) (by kernel_rfl) (fun _ _ _ h => h) (Or.inl ⟨by rfl, fun wS hSw => by (try dsimp only at hSw); go_simp⟩) hHeld ?_
            try simp only [Act.put, List.setIfInBounds_toArray, List.set_cons_zero, List.set_cons_succ]
            refine wpAnyH_ready (rs := [7]) (by kernel_rfl) (by simp) ?_
            refine (AllReadyH.cons (get_ops _ _ _ rfl) (fun K hK => ?_) AllReadyH.nil)
            refine wp_store 24 _ _ rfl rfl ⟨g5, 6, none⟩ (by go_simp) (.slice A6 (ys ++ [(⟨y.x, a6, ac6⟩ : EE)]).length c6) (by first | rfl | go_simp) _ (run_store_part y11 g5 6 1 26 24 (quC s n (.slice A5 ys.length c5)) [(.slice A6 (ys ++ [(⟨y.x, a6, ac6⟩ : EE)]).length c6)] _ rfl rfl (by kernel_rfl) T_y11.out (by show 6 + 1 ≤ 7; decide) (ones rfl)) ?_
            have hM : BK 26 (y11.setRow g5 (putC (quC s n (.slice A5 ys.length c5)) 6 [(.slice A6 (ys ++ [(⟨y.x, a6, ac6⟩ : EE)]).length c6)]).toArray) g5 (quC s n (.slice A6 (ys ++ [(⟨y.x, a6, ac6⟩ : EE)]).length c6)) := MT.put T_y11.out 6 [(.slice A6 (ys ++ [(⟨y.x, a6, ac6⟩ : EE)]).length c6)]
            have hP := S2.put_row y11 g5 (putC (quC s n (.slice A5 ys.length c5)) 6 [(.slice A6 (ys ++ [(⟨y.x, a6, ac6⟩ : EE)]).length c6)]).toArray
            refine name_world (C := fun w9 => K _ w9) _ ?_
            intro y12 hy12
            rw [← hy12] at hM hP
            clear hy12
            have T_y12 : Hid (BK 26 y12 g5 (quC s n (.slice A6 (ys ++ [(⟨y.x, a6, ac6⟩ : EE)]).length c6))) := Lib.hid (hM)
            have U_y12 : Hid (TwL B0 y11.heap.size y12 (.slice A1 fs.length c1) fs (.slice A6 (ys ++ [(⟨y.x, a6, ac6⟩ : EE)]).length c6) (ys ++ [(⟨y.x, a6, ac6⟩ : EE)])) := Lib.hid (TwL.put U_y11.out hP HG5.out)
            have Q_y12 : Hid (BK 26 y12 g1 (quC s n (.slice (some ⟨b, o, none⟩) l.length c))) := Lib.hid (hP.other Q_y11.out (by have h1 := HRS.out; have h2 := HG12.out; omega))
            have R_y12 : Hid (BK 26 y12 g2 (quC Sp.zero 0 (.slice none 0 0))) := Lib.hid (hP.other R_y11.out (by have h1 := HRS.out; omega))
            have B_y12 : Hid (Below w.heap.size w y12) := Lib.hid (hP.below B_y11.out HW5.out)
            have Z_y12 : Hid (N0 ≤ y12.heap.size) := Lib.hid (by have h9 := hP.size; have h8 := Z_y11.out; omega)
            have S_y12 : Hid (y11.heap.size ≤ y12.heap.size) := Lib.hid (by have h9 := hP.size; have h8 := S_y11.out; omega)
            clear T_y11 U_y11 Q_y11 R_y11 B_y11 Z_y11 S_y11
            clear hM hP hHeld
            refine hK.out _ _ B_y12.out (fun hHeld => ?_)
            clear hK K
            try simp only [Act.put, List.setIfInBounds_toArray, List.set_cons_zero, List.set_cons_succ]
            refine wpAnyH_done (by kernel_rfl) ?_ _
            have w1a : j ≤ 1000000 := by have h1 := HJ.out; have h2 := HL.out; omega
            go_wp2
            go_roundg g
            case measure => omega
            case rel => exact ⟨j + 1, A1, c1, fs, A6, c6, ys ++ [(⟨y.x, a6, ac6⟩ : EE)], by have := HJ.out; omega, by go_num, rfl, T_y12.out, U_y12.out.more S_y12.out, by rw [HFS.out, HGS.out]; simp, by rw [List.map_append, HYS.out, HLS.out]; rfl, Q_y12.out, R_y12.out, B_y12.out, Nat.le_trans HBN.out Z_y12.out⟩
          · have HZ6 : Hid (N0 ≤ y8.heap.size) := Lib.hid (Nat.le_trans HZW.out C_y8.out.size)
            go_simp
            refine (HCE.out y.x y.a y.c y8 (HYPL.out _ B_y8.out) HYP.out).mono ?_
            rintro e y9 ⟨a6, ac6, rfl, hpl, hnl, hb⟩
            have T_y9 : Hid (BK 26 y9 g5 (quC s n (.slice A5 ys.length c5))) := Lib.hid (T_y8.out.step hb)
            have U_y9 : Hid (TwL B0 N0 y9 (.slice A1 fs.length c1) fs (.slice A5 ys.length c5) ys) := Lib.hid (TwL.step U_y8.out hb)
            have Q_y9 : Hid (BK 26 y9 g1 (quC s n (.slice (some ⟨b, o, none⟩) l.length c))) := Lib.hid (Q_y8.out.step hb)
            have R_y9 : Hid (BK 26 y9 g2 (quC Sp.zero 0 (.slice none 0 0))) := Lib.hid (R_y8.out.step hb)
            have B_y9 : Hid (Below w.heap.size w y9) := Lib.hid (stepB B_y8.out hb)
            have V_y9 : Hid (BK 34 y9 gx (gE y)) := Lib.hid (V_y8.out.step hb)
            have C_y9 : Hid (Below y6.heap.size y6 y9) := Lib.hid (stepB C_y8.out hb)
            clear T_y8 U_y8 Q_y8 R_y8 B_y8 V_y8 C_y8
            have P_y9 : Hid (PN y9 y8.heap.size a6 y.x.m.props) := Lib.hid ⟨hpl, hnl⟩
            have Y_y9 : Hid (y8.heap.size ≤ y9.heap.size) := Lib.hid hb.size
            clear hpl hnl
            clear hHeld hb
            go_wp2_with fail
            refine hK.out _ _ B_y9.out (fun hHeld => ?_)
            clear hK K
            try simp only [Act.put, List.setIfInBounds_toArray, List.set_cons_zero, List.set_cons_succ]
            refine wpAnyH_ready (rs := [1, 4]) (by kernel_rfl) (by simp) ?_
            refine (AllReadyH.cons (get_ops _ _ _ rfl) (fun K hK => ?_) (AllReadyH.cons (get_ops _ _ _ rfl) (fun K hK => ?_) AllReadyH.nil))
            · refine wp_load2 24 _ rfl ⟨g5, 6, none⟩ (by first | rfl | go_simp) (.slice A5 ys.length c5) (by have cS := T_y9.out.cell 6 rfl; go_simp) ?_
              clear hHeld
              refine hK.out _ _ B_y9.out (fun hHeld => ?_)
              clear hK K
              try simp only [Act.put, List.setIfInBounds_toArray, List.set_cons_zero, List.set_cons_succ]
              refine wpAnyH_ready (rs := [4]) (by kernel_rfl) (by simp) ?_
              refine (AllReadyH.cons (get_ops _ _ _ rfl) (fun K hK => ?_) AllReadyH.nil)
              go_simp
              obtain ⟨vb, hvb⟩ : ∃ n, n = y9.heap.size := ⟨_, rfl⟩
              refine name_world (C := fun w9 => K _ w9) (y9.alloc (.cells (gE (⟨y.x, a6, ac6⟩ : EE)).toArray 34)) ?_
              intro y10 hy10
              have hb : Below y9.heap.size y9 y10 := by rw [hy10]; exact S2.below_new _ _
              have hN : BK 34 y10 vb (gE (⟨y.x, a6, ac6⟩ : EE)) := by rw [hy10, hvb]; exact BK.new _ _ _
              have T_y10 : Hid (BK 26 y10 g5 (quC s n (.slice A5 ys.length c5))) := Lib.hid (T_y9.out.step hb)
              have U_y10 : Hid (TwL B0 N0 y10 (.slice A1 fs.length c1) fs (.slice A5 ys.length c5) ys) := Lib.hid (TwL.step U_y9.out hb)
              have Q_y10 : Hid (BK 26 y10 g1 (quC s n (.slice (some ⟨b, o, none⟩) l.length c))) := Lib.hid (Q_y9.out.step hb)
              have R_y10 : Hid (BK 26 y10 g2 (quC Sp.zero 0 (.slice none 0 0))) := Lib.hid (R_y9.out.step hb)
              have B_y10 : Hid (Below w.heap.size w y10) := Lib.hid (stepB B_y9.out hb)
              have V_y10 : Hid (BK 34 y10 gx (gE y)) := Lib.hid (V_y9.out.step hb)
              have C_y10 : Hid (Below y6.heap.size y6 y10) := Lib.hid (stepB C_y9.out hb)
              have P_y10 : Hid (PN y10 y8.heap.size a6 y.x.m.props) := Lib.hid (PN.step P_y9.out hb)
              have Y_y10 : Hid (y8.heap.size ≤ y10.heap.size) := Lib.hid (Nat.le_trans Y_y9.out hb.size)
              clear T_y9 U_y9 Q_y9 R_y9 B_y9 V_y9 C_y9 P_y9 Y_y9
              have X_y10 := Lib.hid hN
              try rw [← hvb]
              clear hHeld hb hN hy10 hvb
              refine hK.out _ _ B_y10.out (fun hHeld => ?_)
              clear hK K
              try simp only [Act.put, List.setIfInBounds_toArray, List.set_cons_zero, List.set_cons_succ]
              refine wpAnyH_ready (rs := [5]) (by kernel_rfl) (by simp) ?_
              refine (AllReadyH.cons (get_ops _ _ _ rfl) (fun K hK => ?_) AllReadyH.nil)
              refine oper_twl (B := B0) (N := N0) (Bp := y8.heap.size) _ _ rfl (.slice A1 fs.length c1) (.slice A5 ys.length c5) fs ys (⟨y.x, a6, ac6⟩ : EE) (by go_simp) U_y10.out (by go_simp) X_y10.out P_y10.out.1 P_y10.out.2 HBN.out HZ6.out Y_y10.out HLN.out.2 ?_
              intro v6 y11 hO hK9 hsz9
              obtain ⟨_, _, A6, c6, _, e6, _, _, _, _⟩ := two_ret hO.1 hO.2.2
              subst e6
              have T_y11 : Hid (BK 26 y11 g5 (quC s n (.slice A5 ys.length c5))) := Lib.hid (hK9.bk T_y10.out (Or.inl HG5.out))
              have Q_y11 : Hid (BK 26 y11 g1 (quC s n (.slice (some ⟨b, o, none⟩) l.length c))) := Lib.hid (hK9.bk Q_y10.out (Or.inl HG1B.out.1))
              have R_y11 : Hid (BK 26 y11 g2 (quC Sp.zero 0 (.slice none 0 0))) := Lib.hid (hK9.bk R_y10.out (Or.inl HG1B.out.2))
              have B_y11 : Hid (Below w.heap.size w y11) := Lib.hid (hK9.below B_y10.out HWB.out)
              have U_y11 : Hid (TwL B0 y11.heap.size y11 (.slice A1 fs.length c1) fs (.slice A6 (ys ++ [(⟨y.x, a6, ac6⟩ : EE)]).length c6) (ys ++ [(⟨y.x, a6, ac6⟩ : EE)])) := Lib.hid hO
              have Z_y11 : Hid (N0 ≤ y11.heap.size) := Lib.hid (Nat.le_trans (Nat.le_trans HZ6.out Y_y10.out) hsz9)
              have S_y11 : Hid (y11.heap.size ≤ y11.heap.size) := Lib.hid (Nat.le_refl _)
              clear hO hK9 hsz9 hHeld T_y10 U_y10 Q_y10 R_y10 B_y10 V_y10 C_y10 P_y10 Y_y10 X_y10
              refine hK.out _ _ B_y11.out (fun hHeld => ?_)
              clear hK K
              try simp only [Act.put, List.setIfInBounds_toArray, List.set_cons_zero, List.set_cons_succ]
              refine wpAnyH_take (i := 6) (v := (.pointer (some ⟨g5, 6, none⟩))) (get_ops _ _ _ rfl) (by kernel_rfl) (by kernel_rfl) (by kernel_rfl) (fun _ _ _ h => h) (Or.inl ⟨by rfl, fun wS hSw => by (try dsimp only at hSw); go_simp⟩) hHeld ?_
              try simp only [Act.put, List.setIfInBounds_toArray, List.set_cons_zero, List.set_cons_succ]
              refine wpAnyH_ready (rs := [7]) (by kernel_rfl) (by simp) ?_
              refine (AllReadyH.cons (get_ops _ _ _ rfl) (fun K hK => ?_) AllReadyH.nil)
              refine wp_store 24 _ _ rfl rfl ⟨g5, 6, none⟩ (by go_simp) (.slice A6 (ys ++ [(⟨y.x, a6, ac6⟩ : EE)]).length c6) (by first | rfl | go_simp) _ (run_store_part y11 g5 6 1 26 24 (quC s n (.slice A5 ys.length c5)) [(.slice A6 (ys ++ [(⟨y.x, a6, ac6⟩ : EE)]).length c6)] _ rfl rfl (by kernel_rfl) T_y11.out (by show 6 + 1 ≤ 7; decide) (ones rfl)) ?_
              have hM : BK 26 (y11.setRow g5 (putC (quC s n (.slice A5 ys.length c5)) 6 [(.slice A6 (ys ++ [(⟨y.x, a6, ac6⟩ : EE)]).length c6)]).toArray) g5 (quC s n (.slice A6 (ys ++ [(⟨y.x, a6, ac6⟩ : EE)]).length c6)) := MT.put T_y11.out 6 [(.slice A6 (ys ++ [(⟨y.x, a6, ac6⟩ : EE)]).length c6)]
              have hP := S2.put_row y11 g5 (putC (quC s n (.slice A5 ys.length c5)) 6 [(.slice A6 (ys ++ [(⟨y.x, a6, ac6⟩ : EE)]).length c6)]).toArray
              refine name_world (C := fun w9 => K _ w9) _ ?_
              intro y12 hy12
              rw [← hy12] at hM hP
              clear hy12
              have T_y12 : Hid (BK 26 y12 g5 (quC s n (.slice A6 (ys ++ [(⟨y.x, a6, ac6⟩ : EE)]).length c6))) := Lib.hid (hM)
              have U_y12 : Hid (TwL B0 y11.heap.size y12 (.slice A1 fs.length c1) fs (.slice A6 (ys ++ [(⟨y.x, a6, ac6⟩ : EE)]).length c6) (ys ++ [(⟨y.x, a6, ac6⟩ : EE)])) := Lib.hid (TwL.put U_y11.out hP HG5.out)
              have Q_y12 : Hid (BK 26 y12 g1 (quC s n (.slice (some ⟨b, o, none⟩) l.length c))) := Lib.hid (hP.other Q_y11.out (by have h1 := HRS.out; have h2 := HG12.out; omega))
              have R_y12 : Hid (BK 26 y12 g2 (quC Sp.zero 0 (.slice none 0 0))) := Lib.hid (hP.other R_y11.out (by have h1 := HRS.out; omega))
              have B_y12 : Hid (Below w.heap.size w y12) := Lib.hid (hP.below B_y11.out HW5.out)
              have Z_y12 : Hid (N0 ≤ y12.heap.size) := Lib.hid (by have h9 := hP.size; have h8 := Z_y11.out; omega)
              have S_y12 : Hid (y11.heap.size ≤ y12.heap.size) := Lib.hid (by have h9 := hP.size; have h8 := S_y11.out; omega)
              clear T_y11 U_y11 Q_y11 R_y11 B_y11 Z_y11 S_y11
              clear hM hP hHeld
              refine hK.out _ _ B_y12.out (fun hHeld => ?_)
              clear hK K
              try simp only [Act.put, List.setIfInBounds_toArray, List.set_cons_zero, List.set_cons_succ]
              refine wpAnyH_done (by kernel_rfl) ?_ _
              have w1a : j ≤ 1000000 := by have h1 := HJ.out; have h2 := HL.out; omega
              go_wp2
              go_roundg g
              case measure => omega
              case rel => exact ⟨j + 1, A1, c1, fs, A6, c6, ys ++ [(⟨y.x, a6, ac6⟩ : EE)], by have := HJ.out; omega, by go_num, rfl, T_y12.out, U_y12.out.more S_y12.out, by rw [HFS.out, HGS.out]; simp, by rw [List.map_append, HYS.out, HLS.out]; rfl, Q_y12.out, R_y12.out, B_y12.out, Nat.le_trans HBN.out Z_y12.out⟩
            · go_simp
              obtain ⟨vb, hvb⟩ : ∃ n, n = y9.heap.size := ⟨_, rfl⟩
              refine name_world (C := fun w9 => K _ w9) (y9.alloc (.cells (gE (⟨y.x, a6, ac6⟩ : EE)).toArray 34)) ?_
              intro y10 hy10
              have hb : Below y9.heap.size y9 y10 := by rw [hy10]; exact S2.below_new _ _
              have hN : BK 34 y10 vb (gE (⟨y.x, a6, ac6⟩ : EE)) := by rw [hy10, hvb]; exact BK.new _ _ _
              have T_y10 : Hid (BK 26 y10 g5 (quC s n (.slice A5 ys.length c5))) := Lib.hid (T_y9.out.step hb)
              have U_y10 : Hid (TwL B0 N0 y10 (.slice A1 fs.length c1) fs (.slice A5 ys.length c5) ys) := Lib.hid (TwL.step U_y9.out hb)
              have Q_y10 : Hid (BK 26 y10 g1 (quC s n (.slice (some ⟨b, o, none⟩) l.length c))) := Lib.hid (Q_y9.out.step hb)
              have R_y10 : Hid (BK 26 y10 g2 (quC Sp.zero 0 (.slice none 0 0))) := Lib.hid (R_y9.out.step hb)
              have B_y10 : Hid (Below w.heap.size w y10) := Lib.hid (stepB B_y9.out hb)
              have V_y10 : Hid (BK 34 y10 gx (gE y)) := Lib.hid (V_y9.out.step hb)
              have C_y10 : Hid (Below y6.heap.size y6 y10) := Lib.hid (stepB C_y9.out hb)
              have P_y10 : Hid (PN y10 y8.heap.size a6 y.x.m.props) := Lib.hid (PN.step P_y9.out hb)
              have Y_y10 : Hid (y8.heap.size ≤ y10.heap.size) := Lib.hid (Nat.le_trans Y_y9.out hb.size)
              clear T_y9 U_y9 Q_y9 R_y9 B_y9 V_y9 C_y9 P_y9 Y_y9
              have X_y10 := Lib.hid hN
              try rw [← hvb]
              clear hHeld hb hN hy10 hvb
              refine hK.out _ _ B_y10.out (fun hHeld => ?_)
              clear hK K
              try simp only [Act.put, List.setIfInBounds_toArray, List.set_cons_zero, List.set_cons_succ]
              refine wpAnyH_ready (rs := [1]) (by kernel_rfl) (by simp) ?_
              refine (AllReadyH.cons (get_ops _ _ _ rfl) (fun K hK => ?_) AllReadyH.nil)
              refine wp_load2 24 _ rfl ⟨g5, 6, none⟩ (by first | rfl | go_simp) (.slice A5 ys.length c5) (by have cS := T_y10.out.cell 6 rfl; go_simp) ?_
              clear hHeld
              refine hK.out _ _ B_y10.out (fun hHeld => ?_)
              clear hK K
              try simp only [Act.put, List.setIfInBounds_toArray, List.set_cons_zero, List.set_cons_succ]
              refine wpAnyH_ready (rs := [5]) (by kernel_rfl) (by simp) ?_
              refine (AllReadyH.cons (get_ops _ _ _ rfl) (fun K hK => ?_) AllReadyH.nil)
              refine oper_twl (B := B0) (N := N0) (Bp := y8.heap.size) _ _ rfl (.slice A1 fs.length c1) (.slice A5 ys.length c5) fs ys (⟨y.x, a6, ac6⟩ : EE) (by go_simp) U_y10.out (by go_simp) X_y10.out P_y10.out.1 P_y10.out.2 HBN.out HZ6.out Y_y10.out HLN.out.2 ?_
              intro v6 y11 hO hK9 hsz9
              obtain ⟨_, _, A6, c6, _, e6, _, _, _, _⟩ := two_ret hO.1 hO.2.2
              subst e6
              have T_y11 : Hid (BK 26 y11 g5 (quC s n (.slice A5 ys.length c5))) := Lib.hid (hK9.bk T_y10.out (Or.inl HG5.out))
              have Q_y11 : Hid (BK 26 y11 g1 (quC s n (.slice (some ⟨b, o, none⟩) l.length c))) := Lib.hid (hK9.bk Q_y10.out (Or.inl HG1B.out.1))
              have R_y11 : Hid (BK 26 y11 g2 (quC Sp.zero 0 (.slice none 0 0))) := Lib.hid (hK9.bk R_y10.out (Or.inl HG1B.out.2))
              have B_y11 : Hid (Below w.heap.size w y11) := Lib.hid (hK9.below B_y10.out HWB.out)
              have U_y11 : Hid (TwL B0 y11.heap.size y11 (.slice A1 fs.length c1) fs (.slice A6 (ys ++ [(⟨y.x, a6, ac6⟩ : EE)]).length c6) (ys ++ [(⟨y.x, a6, ac6⟩ : EE)])) := Lib.hid hO
              have Z_y11 : Hid (N0 ≤ y11.heap.size) := Lib.hid (Nat.le_trans (Nat.le_trans HZ6.out Y_y10.out) hsz9)
              have S_y11 : Hid (y11.heap.size ≤ y11.heap.size) := Lib.hid (Nat.le_refl _)
              clear hO hK9 hsz9 hHeld T_y10 U_y10 Q_y10 R_y10 B_y10 V_y10 C_y10 P_y10 Y_y10 X_y10
              refine hK.out _ _ B_y11.out (fun hHeld => ?_)
              clear hK K
              try simp only [Act.put, List.setIfInBounds_toArray, List.set_cons_zero, List.set_cons_succ]
              refine wpAnyH_take (i := 6) (v := (.pointer (some ⟨g5, 6, none⟩))) (get_ops _ _ _ rfl) (by kernel_rfl) (by kernel_rfl) (by kernel_rfl) (fun _ _ _ h => h) (Or.inl ⟨by rfl, fun wS hSw => by (try dsimp only at hSw); go_simp⟩) hHeld ?_
              try simp only [Act.put, List.setIfInBounds_toArray, List.set_cons_zero, List.set_cons_succ]
              refine wpAnyH_ready (rs := [7]) (by kernel_rfl) (by simp) ?_
              refine (AllReadyH.cons (get_ops _ _ _ rfl) (fun K hK => ?_) AllReadyH.nil)
              refine wp_store 24 _ _ rfl rfl ⟨g5, 6, none⟩ (by go_simp) (.slice A6 (ys ++ [(⟨y.x, a6, ac6⟩ : EE)]).length c6) (by first | rfl | go_simp) _ (run_store_part y11 g5 6 1 26 24 (quC s n (.slice A5 ys.length c5)) [(.slice A6 (ys ++ [(⟨y.x, a6, ac6⟩ : EE)]).length c6)] _ rfl rfl (by kernel_rfl) T_y11.out (by show 6 + 1 ≤ 7; decide) (ones rfl)) ?_
              have hM : BK 26 (y11.setRow g5 (putC (quC s n (.slice A5 ys.length c5)) 6 [(.slice A6 (ys ++ [(⟨y.x, a6, ac6⟩ : EE)]).length c6)]).toArray) g5 (quC s n (.slice A6 (ys ++ [(⟨y.x, a6, ac6⟩ : EE)]).length c6)) := MT.put T_y11.out 6 [(.slice A6 (ys ++ [(⟨y.x, a6, ac6⟩ : EE)]).length c6)]
              have hP := S2.put_row y11 g5 (putC (quC s n (.slice A5 ys.length c5)) 6 [(.slice A6 (ys ++ [(⟨y.x, a6, ac6⟩ : EE)]).length c6)]).toArray
              refine name_world (C := fun w9 => K _ w9) _ ?_
              intro y12 hy12
              rw [← hy12] at hM hP
              clear hy12
              have T_y12 : Hid (BK 26 y12 g5 (quC s n (.slice A6 (ys ++ [(⟨y.x, a6, ac6⟩ : EE)]).length c6))) := Lib.hid (hM)
              have U_y12 : Hid (TwL B0 y11.heap.size y12 (.slice A1 fs.length c1) fs (.slice A6 (ys ++ [(⟨y.x, a6, ac6⟩ : EE)]).length c6) (ys ++ [(⟨y.x, a6, ac6⟩ : EE)])) := Lib.hid (TwL.put U_y11.out hP HG5.out)
              have Q_y12 : Hid (BK 26 y12 g1 (quC s n (.slice (some ⟨b, o, none⟩) l.length c))) := Lib.hid (hP.other Q_y11.out (by have h1 := HRS.out; have h2 := HG12.out; omega))
              have R_y12 : Hid (BK 26 y12 g2 (quC Sp.zero 0 (.slice none 0 0))) := Lib.hid (hP.other R_y11.out (by have h1 := HRS.out; omega))
              have B_y12 : Hid (Below w.heap.size w y12) := Lib.hid (hP.below B_y11.out HW5.out)
              have Z_y12 : Hid (N0 ≤ y12.heap.size) := Lib.hid (by have h9 := hP.size; have h8 := Z_y11.out; omega)
              have S_y12 : Hid (y11.heap.size ≤ y12.heap.size) := Lib.hid (by have h9 := hP.size; have h8 := S_y11.out; omega)
              clear T_y11 U_y11 Q_y11 R_y11 B_y11 Z_y11 S_y11
              clear hM hP hHeld
              refine hK.out _ _ B_y12.out (fun hHeld => ?_)
              clear hK K
              try simp only [Act.put, List.setIfInBounds_toArray, List.set_cons_zero, List.set_cons_succ]
              refine wpAnyH_done (by kernel_rfl) ?_ _
              have w1a : j ≤ 1000000 := by have h1 := HJ.out; have h2 := HL.out; omega
              go_wp2
              go_roundg g
              case measure => omega
              case rel => exact ⟨j + 1, A1, c1, fs, A6, c6, ys ++ [(⟨y.x, a6, ac6⟩ : EE)], by have := HJ.out; omega, by go_num, rfl, T_y12.out, U_y12.out.more S_y12.out, by rw [HFS.out, HGS.out]; simp, by rw [List.map_append, HYS.out, HLS.out]; rfl, Q_y12.out, R_y12.out, B_y12.out, Nat.le_trans HBN.out Z_y12.out⟩

end Go.Proofs.YtjhojpghllnoiaaDoor
