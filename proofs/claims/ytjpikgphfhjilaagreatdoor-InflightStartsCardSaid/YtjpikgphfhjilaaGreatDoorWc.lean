/-
  What the copies of inflight answer: Clone of properties and of items, cloneMessage, clonePool. Conditions: the lists read as data; few elements.
-/
import Derived.Test.YtjpikgphfhjilaaGreatDoorWi
import Derived.Test.YtjpikgphfhjilaaGreatDoorKeyP
namespace Go.Proofs.YtjpikgphfhjilaaGreatDoor
open Go.RowKit
open S2 (BK Put)

/-- an own list lies behind what was there -/
theorem OwnG.retB {α : Type} {g : α → List Value} {k : Nat} {e : TypeId} (hg : ∀ x, (g x).length = k) {w : World} {B : Nat} {v : Value} {xs : List α} (h : OwnG e g k w B v xs) : ∃ A c, v = .slice A xs.length c ∧ xs.length ≤ c ∧ NewL B A ∧
    ∀ w', w.heap.size ≤ w'.heap.size → (∀ p : Addr, B ≤ p.block → w'.cell? p = w.cell? p) → GL g k w' w'.heap.size A xs := by
  have h2 := h
  unfold OwnG at h
  rcases h.2 with ⟨rfl, hn⟩ | ⟨q, cap, cur, rfl, hb, hq, hnc, hcm, hcs, htake⟩
  · have : xs = [] := List.eq_nil_of_length_eq_zero hn
    subst this
    exact ⟨none, 0, rfl, Nat.le_refl _, fun b o e => by simp at e, fun w' _ _ => GL.nil _ _ _⟩
  · refine ⟨_, cap, rfl, hnc, fun b o e => by
      simp only [Option.some.injEq, Addr.mk.injEq, and_true] at e
      omega, fun w' hs hk hn => ?_⟩
    obtain ⟨A1, c1, e1, _, hgl⟩ := OwnG.ret hg h2
    simp only [Value.slice.injEq] at e1
    obtain ⟨rfl, _, _⟩ := e1
    obtain ⟨b, o, e, hb', hc⟩ := hgl hn
    have e' := e
    simp only [Option.some.injEq, Addr.mk.injEq, and_true] at e'
    refine ⟨b, o, e, by omega, fun j x i u hx hu => ?_⟩
    rw [hk _ (by show B ≤ b; omega)]
    exact hc j x i u hx hu

theorem prInfo : (Tryz.prog.info? 86).map (fun i => (i.zero, i.size, i.bytes)) = some (some (.agg #[.string ByteArray.empty, .string ByteArray.empty]), 2, 32) := by kernel_rfl
abbrev OwnPr (w : World) (B : Nat) (v : Value) (xs : List PR) : Prop := OwnG 86 gP 2 w B v xs
abbrev OwnF (w : World) (B : Nat) (v : Value) (xs : List FE) : Prop := OwnG 60 gF 11 w B v xs

set_option maxHeartbeats 1000000 in
theorem cloneP_any (A : Option Addr) (c : Nat) (xs : List PR) (w : World) (hsl : PL w w.heap.size A xs) (hn : xs.length ≤ 100000) :
    Calls Tryz.prog 48 #[.slice A xs.length c] w fun e w' => ∃ v, e = .returned v ∧ OwnPr w' w.heap.size v xs ∧ Below w.heap.size w w' := by
  have q22 : ∀ (w : World) (a : Option Addr) (n c n' c' : Nat), (binOp .eql 28 (.slice a n c) (.slice none n' c')).run Tryz.prog w = .ok (.bool a.isNone) w := fun w a n c n' c' => Lib.run_eql_slice_nil w _ _ a n c n' c' Tryz.underlying28
  cases A with
  | none =>
    have h0 : xs = [] := by
      rcases Nat.eq_zero_or_pos xs.length with h | h
      · exact List.eq_nil_of_length_eq_zero h
      · obtain ⟨b, o, e, _⟩ := hsl h; cases e
    subst h0
    clear hsl hn
    go_enter Tryz.func48, Tryz.ntmps48
    go_wp2
    go_ret
    exact ⟨_, rfl, OwnG.nil _ _, Below.refl _ _⟩
  | some a =>
    have hsl2 := hsl.step ((Below.refl _ _).alloc (Nat.le_refl _) (.cells #[] 86))
    have hb0 := (Below.refl w.heap.size w).alloc (Nat.le_refl _) (.cells #[] 86)
    have HS := Lib.hid hsl2
    clear hsl hsl2
    go_enter Tryz.func48, Tryz.ntmps48
    go_wp2_with (at_builtin; go_must (refine wpList_appG (g := gP) (k := 2) (e := 86) (by decide) _ rfl _ _ 28 28 rfl (.agg #[.string ByteArray.empty, .string ByteArray.empty]) 32 Tryz.underlying28 prInfo rfl (by decide) w.heap.size _ [] xs rfl (OwnG.made w 0 #[] w.heap.size (Nat.le_refl _) (by decide) rfl) _ rfl (GL.src gP_len gP_one HS.out Tryz.underlying28 c) w hb0 (by simp) (by simp; omega) ?_); intro v' w' hown' hb' hsz')
    go_ret
    exact ⟨_, rfl, hown', hb'⟩

set_option maxHeartbeats 1000000 in
theorem cloneF_any (A : Option Addr) (c : Nat) (xs : List FE) (w : World) (hsl : GL gF 11 w w.heap.size A xs) (hn : xs.length ≤ 100000) :
    Calls Tryz.prog 49 #[.slice A xs.length c] w fun e w' => ∃ v, e = .returned v ∧ OwnF w' w.heap.size v xs ∧ Below w.heap.size w w' := by
  have q22 : ∀ (w : World) (a : Option Addr) (n c n' c' : Nat), (binOp .eql 22 (.slice a n c) (.slice none n' c')).run Tryz.prog w = .ok (.bool a.isNone) w := fun w a n c n' c' => Lib.run_eql_slice_nil w _ _ a n c n' c' Tryz.underlying22
  cases A with
  | none =>
    have h0 : xs = [] := by
      rcases Nat.eq_zero_or_pos xs.length with h | h
      · exact List.eq_nil_of_length_eq_zero h
      · obtain ⟨b, o, e, _⟩ := hsl h; cases e
    subst h0
    clear hsl hn
    go_enter Tryz.func49, Tryz.ntmps49
    go_wp2
    go_ret
    exact ⟨_, rfl, OwnG.nil _ _, Below.refl _ _⟩
  | some a =>
    have hsl2 := hsl.step ((Below.refl _ _).alloc (Nat.le_refl _) (.cells #[] 60))
    have hb0 := (Below.refl w.heap.size w).alloc (Nat.le_refl _) (.cells #[] 60)
    have HS := Lib.hid hsl2
    clear hsl hsl2
    go_enter Tryz.func49, Tryz.ntmps49
    go_wp2_with (at_builtin; go_must (refine wpList_appG (g := gF) (k := 11) (e := 60) (by decide) _ rfl _ _ 22 22 rfl (.agg #[.int .i64 0, .int .i64 0, .string ByteArray.empty, .string ByteArray.empty, .int .i64 0, .bool false, .int .i64 0, .int .i64 0, .string ByteArray.empty, .int .i64 0, .slice none 0 0]) 128 Tryz.underlying22 flInfo rfl (by decide) w.heap.size _ [] xs rfl (OwnG.made w 0 #[] w.heap.size (Nat.le_refl _) (by decide) rfl) _ rfl (GL.src gF_len gF_one HS.out Tryz.underlying22 c) w hb0 (by simp) (by simp; omega) ?_); intro v' w' hown' hb' hsz')
    go_ret
    exact ⟨_, rfl, hown', hb'⟩

/-- a message that a call answers, its properties in memory of their own -/
def RetM (m : Msg) (W : World) (e : Ending) (w' : World) : Prop := ∃ a c, e = .returned (msgV m a c) ∧ PL w' w'.heap.size a m.props ∧ NewL W.heap.size a ∧ Below W.heap.size W w'

set_option maxRecDepth 20000 in
set_option maxHeartbeats 4000000 in
theorem cloneMessage_any (m : Msg) (a : Option Addr) (c : Nat) (w : World) (hsl : PL w w.heap.size a m.props) (hn : m.props.length ≤ 100000) :
    Calls Tryz.prog 19 #[msgV m a c] w (RetM m w) := by
  unfold msgV
  have HC := Lib.hid (fun w1 h => cloneP_any a c m.props w1 h hn)
  have HS := Lib.hid hsl
  clear hsl hn
  go_enter Tryz.func19, Tryz.ntmps19
  go_upto_region 1 with fail
  refine name_world (C := fun w1 => Code.wp _ _ _ _ w1) ((w.alloc (.cells (msgC m a c).toArray 30)).alloc (.cells (msgC Msg.zero none 0).toArray 30)) ?_
  intro w1 hw1
  have H0 := S2.two_laid (v1 := msgC m a c) (v2 := msgC Msg.zero none 0) hw1
  clear hw1
  obtain ⟨t1, t2, hs0, hB0⟩ := H0
  have T1 := Lib.hid t1
  have T2 := Lib.hid t2
  have HB := Lib.hid hB0
  have HZ := Lib.hid hs0
  have d8 := t1.cell 8 rfl
  clear t1 t2 hB0 hs0
  go_wp2_with fail
  refine (HC.out _ (HS.out.step HB.out)).mono ?_
  rintro e w2 ⟨v2, rfl, hown2, hb2⟩
  obtain ⟨a2, c2, hv2, _, hnew, hgl⟩ := hown2.retB gP_len
  subst hv2
  have U1 := Lib.hid (T1.out.step hb2)
  have U2 := Lib.hid (T2.out.step hb2)
  have HB2 := Lib.hid (stepB HB.out hb2)
  have HZ2 := Lib.hid hb2.size
  have HG := Lib.hid hgl
  have HN := Lib.hid hnew
  have f8 := U1.out.free 8
  have g8 := U1.out.cell 8 rfl
  have hlt := U1.out.lt
  clear hb2 hown2 hgl hnew T1 T2 HB HC d8
  go_upto_region 2 with fail
  refine name_world (C := fun w3 => Code.wp _ _ _ _ w3) (w2.setCell ⟨w.heap.size, 8, none⟩ (.slice a2 m.props.length c2)) ?_
  intro w3 hw3
  have U1' : Hid (BK 30 w3 w.heap.size (msgC m a2 c2)) := Lib.hid (by rw [hw3]; exact U1.out.set 8 _)
  have U2' : Hid (BK 30 w3 (w.heap.size + 1) (msgC Msg.zero none 0)) := Lib.hid (by rw [hw3]; exact U2.out.other (by show w.heap.size + 1 ≠ w.heap.size; omega) _)
  have HB3 : Hid (Below w.heap.size w w3) := Lib.hid (by rw [hw3]; exact HB2.out.setCell (p := ⟨w.heap.size, 8, none⟩) (Nat.le_refl _) _)
  have HZ3 : Hid (w3.heap.size = w2.heap.size) := Lib.hid (by rw [hw3]; simp)
  have HE3 : Hid (∀ p : Addr, w1.heap.size ≤ p.block → w3.cell? p = w2.cell? p) := Lib.hid (fun p hp => by rw [hw3]; exact S2.set_other _ _ _ _ _ (by have := HZ.out; omega))
  clear hw3 U1 U2 HB2 f8 g8 hlt
  go_wp2_with first
    | (refine wpList_load_v (by rfl) 30 (.tmp 1) rfl ⟨w.heap.size, 0, none⟩ rfl (msgV m a2 c2) (S2.run_load_all U1'.out Tryz.underlying30 rfl msgSize) ?_)
    | (refine S2.wpList_store_all (by rfl) 30 (.tmp 2) (.tmp 7) rfl rfl (w.heap.size + 1) rfl (msgC m a2 c2) rfl 30 (msgC Msg.zero none 0) U2'.out msgSize rfl (msgC_one _ _ _) ?_; intro w4 hM hP; have M4 := Lib.hid hM; have P4 := Lib.hid hP; clear hM hP)
  refine bodyPost_ret (v := msgV m a2 c2) (S2.res_cell rfl _ _ (w.heap.size + 1) 30 (msgC m a2 c2) _ rfl M4.out Tryz.underlying30 rfl msgSize) rfl ⟨a2, c2, rfl, HG.out w4 (by rw [P4.out.size, HZ3.out]; exact Nat.le_refl _) (fun p hp => ?_), fun b o e => by have := HN.out b o e; have := HZ.out; omega, P4.out.below HB3.out (by omega)⟩
  rw [P4.out.cell (by have := HZ.out; omega), HE3.out p hp]

/-- a pool that a call answers, its list in memory of its own -/
def RetPn (X : List Int) (L : Int) (W : World) (e : Ending) (w' : World) : Prop := ∃ A c, e = .returned (S2.pv A c X L) ∧ X.length ≤ c ∧ S2.IL w' w'.heap.size A X ∧ NewL W.heap.size A ∧ Below W.heap.size W w'
set_option maxRecDepth 20000 in
set_option maxHeartbeats 4000000 in
theorem clonePool_any (A : Option Addr) (c : Nat) (X : List Int) (L : Int) (w : World) (hsl : S2.IL w w.heap.size A X) (hn : X.length ≤ 100000) :
    Calls Tryz.prog 57 #[S2.pv A c X L] w (RetPn X L w) := by
  have HC := Lib.hid (fun w1 h => S2.cloneI_any A c X w1 h (by omega))
  have HS := Lib.hid hsl
  clear hsl hn
  go_enter Tryz.func57, Tryz.ntmps57
  go_upto_region 1 with fail
  refine name_world (C := fun w1 => Code.wp _ _ _ _ w1) ((w.alloc (.cells #[.slice A X.length c, .int .i64 L] 25)).alloc (.cells #[.slice none 0 0, .int .i64 0] 25)) ?_
  intro w1 hw1
  have H0 := S2.two_laid (v1 := [.slice A X.length c, .int .i64 L]) (v2 := [.slice none 0 0, .int .i64 0]) hw1
  clear hw1
  obtain ⟨t1, t2, hs0, hB0⟩ := H0
  have T1 := Lib.hid t1
  have T2 := Lib.hid t2
  have HB := Lib.hid hB0
  have HZ := Lib.hid hs0
  have d0 := t1.cell 0 rfl
  clear t1 t2 hB0 hs0
  go_wp2_with fail
  refine (HC.out _ (CL.step HS.out HB.out)).mono ?_
  rintro e w2 ⟨v2, rfl, hown2, hb2⟩
  obtain ⟨a2, c2, hv2, hc2, hgl, hnew⟩ := hown2.retB
  subst hv2
  have HC2 := Lib.hid hc2
  have U1 := Lib.hid (T1.out.step hb2)
  have U2 := Lib.hid (T2.out.step hb2)
  have HB2 := Lib.hid (stepB HB.out hb2)
  have HZ2 := Lib.hid hb2.size
  have HG := Lib.hid hgl
  have HN := Lib.hid hnew
  have f8 := U1.out.free 0
  have g8 := U1.out.cell 0 rfl
  have hlt := U1.out.lt
  clear hb2 hown2 hgl hnew T1 T2 HB HC d0 hc2
  go_upto_region 2 with fail
  refine name_world (C := fun w3 => Code.wp _ _ _ _ w3) (w2.setCell ⟨w.heap.size, 0, none⟩ (.slice a2 X.length c2)) ?_
  intro w3 hw3
  have U1' : Hid (BK 25 w3 w.heap.size [.slice a2 X.length c2, .int .i64 L]) := Lib.hid (by rw [hw3]; exact U1.out.set 0 _)
  have U2' : Hid (BK 25 w3 (w.heap.size + 1) [.slice none 0 0, .int .i64 0]) := Lib.hid (by rw [hw3]; exact U2.out.other (by show w.heap.size + 1 ≠ w.heap.size; omega) _)
  have HB3 : Hid (Below w.heap.size w w3) := Lib.hid (by rw [hw3]; exact HB2.out.setCell (p := ⟨w.heap.size, 0, none⟩) (Nat.le_refl _) _)
  have HZ3 : Hid (w3.heap.size = w2.heap.size) := Lib.hid (by rw [hw3]; simp)
  have HE3 : Hid (∀ p : Addr, w1.heap.size ≤ p.block → w3.cell? p = w2.cell? p) := Lib.hid (fun p hp => by rw [hw3]; exact S2.set_other _ _ _ _ _ (by have := HZ.out; omega))
  clear hw3 U1 U2 HB2 f8 g8 hlt
  go_wp2_with first
    | (refine wpList_load_v (by rfl) 25 (.tmp 1) rfl ⟨w.heap.size, 0, none⟩ rfl (S2.pv a2 c2 X L) (S2.run_load_all U1'.out Tryz.underlying25 rfl S2.infoP2) ?_)
    | (refine S2.wpList_store_all (by rfl) 25 (.tmp 2) (.tmp 7) rfl rfl (w.heap.size + 1) rfl [.slice a2 X.length c2, .int .i64 L] rfl 25 [.slice none 0 0, .int .i64 0] U2'.out S2.infoP2 rfl (ones rfl) ?_; intro w4 hM hP; have M4 := Lib.hid hM; have P4 := Lib.hid hP; clear hM hP)
  refine bodyPost_ret (v := S2.pv a2 c2 X L) (S2.res_cell rfl _ _ (w.heap.size + 1) 25 [.slice a2 X.length c2, .int .i64 L] _ rfl M4.out Tryz.underlying25 rfl S2.infoP2) rfl ⟨a2, c2, rfl, HC2.out, HG.out w4 (by rw [P4.out.size, HZ3.out]; exact Nat.le_refl _) (fun p hp => ?_), fun b o e => by have := HN.out b o e; have := HZ.out; omega, P4.out.below HB3.out (by omega)⟩
  rw [P4.out.cell (by have := HZ.out; omega), HE3.out p hp]
end Go.Proofs.YtjpikgphfhjilaaGreatDoor
