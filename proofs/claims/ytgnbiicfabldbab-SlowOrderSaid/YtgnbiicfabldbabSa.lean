/-
  What clone and cloneMessage of slow answer: the messages, in memory of their own. Conditions: the lists read as data; few messages, with few properties.
-/
import Derived.Test.YtgnbiicfabldbabLe
import Derived.Test.YtgnbiicfabldbabSame
namespace Go.Proofs.Ytgnbiicfabldbab
open Go.RowKit
open S2 (BK Put)

/-- a message in a list and where its properties lie -/
structure ME where
  m : Msg
  a : Option Addr
  c : Nat
def gM (x : ME) : List Value := msgC x.m x.a x.c
theorem gM_len (x : ME) : (gM x).length = 9 := rfl
theorem gM_one (x : ME) : ∀ u ∈ gM x, u.oneCell' = true := ones rfl
abbrev mps (x : ME) : List PR := x.m.props
/-- a list of messages that came in -/
abbrev MI (w : World) (B : Nat) (A : Option Addr) (xs : List ME) : Prop := LI gM 9 ME.a mps w B A xs
abbrev MN (w : World) (B : Nat) (A : Option Addr) (xs : List ME) : Prop := LN gM 9 ME.a mps w B A xs
abbrev OwnM (w : World) (B : Nat) (v : Value) (xs : List ME) : Prop := OwnG 25 gM 9 w B v xs
abbrev LstM (B : Nat) (w : World) (v : Value) (xs : List ME) : Prop := Lst 25 gM 9 ME.a mps B w v xs
abbrev RetLM (L : List Msg) (W : World) (E : Ending) (w' : World) : Prop := RetLs 25 gM 9 ME.a mps ME.m L W E w'
theorem msgInfo : (Try.prog.info? 25).map (fun i => (i.zero, i.size, i.bytes)) = some (some (.agg #[.string ByteArray.empty, .string ByteArray.empty, .int .i64 0, .bool false, .int .i64 0, .int .i64 0, .string ByteArray.empty, .int .i64 0, .slice none 0 0]), 9, 112) := by kernel_rfl
/-- a message of the list is loaded -/
theorem load_msg {w : World} {b o : Nat} {x : ME} (hc : ∀ i v, (gM x)[i]? = some v → w.cell? ⟨b, o + i, none⟩ = some v) : (loadVar 25 ⟨b, o, none⟩).run Try.prog w = .ok (msgV x.m x.a x.c) w :=
  run_load_cells w b o (gM x) 25 _ hc Try.underlying25 rfl msgSize

set_option maxHeartbeats 1000000 in
theorem cloneM_any (A : Option Addr) (c : Nat) (xs : List ME) (w : World) (hsl : GL gM 9 w w.heap.size A xs) (hn : xs.length ≤ 100000) :
    Calls Try.prog 28 #[.slice A xs.length c] w fun e w' => ∃ v, e = .returned v ∧ OwnM w' w.heap.size v xs ∧ Below w.heap.size w w' := by
  have q22 : ∀ (w : World) (a : Option Addr) (n c n' c' : Nat), (binOp .eql 22 (.slice a n c) (.slice none n' c')).run Try.prog w = .ok (.bool a.isNone) w := fun w a n c n' c' => Lib.run_eql_slice_nil w _ _ a n c n' c' Try.underlying22
  cases A with
  | none =>
    have h0 : xs = [] := by
      rcases Nat.eq_zero_or_pos xs.length with h | h
      · exact List.eq_nil_of_length_eq_zero h
      · obtain ⟨b, o, e, _⟩ := hsl h; cases e
    subst h0
    clear hsl hn
    go_enter Try.func28, Try.ntmps28
    go_wp2
    go_ret
    exact ⟨_, rfl, OwnG.nil _ _, Below.refl _ _⟩
  | some a =>
    have hsl2 := hsl.step ((Below.refl _ _).alloc (Nat.le_refl _) (.cells #[] 25))
    have hb0 := (Below.refl w.heap.size w).alloc (Nat.le_refl _) (.cells #[] 25)
    have HS := Lib.hid hsl2
    clear hsl hsl2
    go_enter Try.func28, Try.ntmps28
    go_wp2_with (at_builtin; go_must (refine wpList_appG (g := gM) (k := 9) (e := 25) (by decide) _ rfl _ _ 22 22 rfl (.agg #[.string ByteArray.empty, .string ByteArray.empty, .int .i64 0, .bool false, .int .i64 0, .int .i64 0, .string ByteArray.empty, .int .i64 0, .slice none 0 0]) 112 Try.underlying22 msgInfo rfl (by decide) w.heap.size _ [] xs rfl (OwnG.made w 0 #[] w.heap.size (Nat.le_refl _) (by decide) rfl) _ rfl (GL.src gM_len gM_one HS.out Try.underlying22 c) w hb0 (by simp) (by simp; omega) ?_); intro v' w' hown' hb' hsz')
    go_ret
    exact ⟨_, rfl, hown', hb'⟩

set_option maxRecDepth 20000 in
set_option maxHeartbeats 4000000 in
theorem sCloneMessage_any (m : Msg) (a : Option Addr) (c : Nat) (w : World) (hsl : PL w w.heap.size a m.props) (hn : m.props.length ≤ 4398046511104) :
    Calls Try.prog 24 #[msgV m a c] w (RetM m w) := by
  unfold msgV
  have HC := Lib.hid (fun w1 h => cloneP_any a c m.props w1 h (by omega))
  have HS := Lib.hid hsl
  clear hsl hn
  go_enter Try.func24, Try.ntmps24
  go_upto_region 1 with fail
  refine name_world (C := fun w1 => Code.wp _ _ _ _ w1) ((w.alloc (.cells (msgC m a c).toArray 25)).alloc (.cells (msgC Msg.zero none 0).toArray 25)) ?_
  intro w1 hw1
  have H0 := S2.two_laid (v1 := msgC m a c) (v2 := msgC Msg.zero none 0) hw1
  clear hw1
  obtain ⟨t1, t2, hs0, hB0⟩ := H0
  have T1 := Lib.hid t1
  have T2 := Lib.hid t2
  have HB := Lib.hid hB0
  have HZ := Lib.hid hs0
  have d8 := t1.cell 8 rfl
  clear t1 t2 hB0 hs0
  go_wp2_with fail
  refine (HC.out _ (HS.out.step HB.out)).mono ?_
  rintro e w2 ⟨v2, rfl, hown2, hb2⟩
  obtain ⟨a2, c2, hv2, _, hnew, hgl⟩ := hown2.retB gP_len
  subst hv2
  have U1 := Lib.hid (T1.out.step hb2)
  have U2 := Lib.hid (T2.out.step hb2)
  have HB2 := Lib.hid (stepB HB.out hb2)
  have HZ2 := Lib.hid hb2.size
  have HG := Lib.hid hgl
  have HN := Lib.hid hnew
  have f8 := U1.out.free 8
  have g8 := U1.out.cell 8 rfl
  have hlt := U1.out.lt
  clear hb2 hown2 hgl hnew T1 T2 HB HC d8
  go_upto_region 2 with fail
  refine name_world (C := fun w3 => Code.wp _ _ _ _ w3) (w2.setCell ⟨w.heap.size, 8, none⟩ (.slice a2 m.props.length c2)) ?_
  intro w3 hw3
  have U1' : Hid (BK 25 w3 w.heap.size (msgC m a2 c2)) := Lib.hid (by rw [hw3]; exact U1.out.set 8 _)
  have U2' : Hid (BK 25 w3 (w.heap.size + 1) (msgC Msg.zero none 0)) := Lib.hid (by rw [hw3]; exact U2.out.other (by show w.heap.size + 1 ≠ w.heap.size; omega) _)
  have HB3 : Hid (Below w.heap.size w w3) := Lib.hid (by rw [hw3]; exact HB2.out.setCell (p := ⟨w.heap.size, 8, none⟩) (Nat.le_refl _) _)
  have HZ3 : Hid (w3.heap.size = w2.heap.size) := Lib.hid (by rw [hw3]; simp)
  have HE3 : Hid (∀ p : Addr, w1.heap.size ≤ p.block → w3.cell? p = w2.cell? p) := Lib.hid (fun p hp => by rw [hw3]; exact S2.set_other _ _ _ _ _ (by have := HZ.out; omega))
  clear hw3 U1 U2 HB2 f8 g8 hlt
  go_wp2_with first
    | (refine wpList_load_v (by rfl) 25 (.tmp 1) rfl ⟨w.heap.size, 0, none⟩ rfl (msgV m a2 c2) (S2.run_load_all U1'.out Try.underlying25 rfl msgSize) ?_)
    | (refine S2.wpList_store_all (by rfl) 25 (.tmp 2) (.tmp 7) rfl rfl (w.heap.size + 1) rfl (msgC m a2 c2) rfl 25 (msgC Msg.zero none 0) U2'.out msgSize rfl (msgC_one _ _ _) ?_; intro w4 hM hP; have M4 := Lib.hid hM; have P4 := Lib.hid hP; clear hM hP)
  refine bodyPost_ret (v := msgV m a2 c2) (S2.res_cell rfl _ _ (w.heap.size + 1) 25 (msgC m a2 c2) _ rfl M4.out Try.underlying25 rfl msgSize) rfl ⟨a2, c2, rfl, HG.out w4 (by rw [P4.out.size, HZ3.out]; exact Nat.le_refl _) (fun p hp => ?_), fun b o e => by have := HN.out b o e; have := HZ.out; omega, P4.out.below HB3.out (by omega)⟩
  rw [P4.out.cell (by have := HZ.out; omega), HE3.out p hp]

set_option maxRecDepth 20000 in
set_option maxHeartbeats 4000000 in
theorem sClone_any (A : Option Addr) (c : Nat) (xs : List ME) (w : World) (hsl : MI w w.heap.size A xs) (hn : xs.length ≤ 100000) (hp : ∀ x ∈ xs, x.m.props.length ≤ 4398046511104) :
    Calls Try.prog 23 #[.slice A xs.length c] w (RetLM (xs.map ME.m) w) := by
  have HC := Lib.hid (cloneM_any A c xs w hsl.1 hn)
  have HM := Lib.hid (fun m a c w1 h hl => sCloneMessage_any m a c w1 h hl)
  have HS := Lib.hid hsl
  have HP := Lib.hid hp
  clear hsl hp
  go_enter Try.func23, Try.ntmps23
  go_wp2_with fail
  refine HC.out.mono ?_
  rintro e w1 ⟨v1, rfl, hown1, hb1⟩
  have HB1 := Lib.hid hb1
  clear hb1 HC
  rcases own_rowG hown1 with ⟨rfl, rfl⟩ | ⟨g, cap, sp, rfl, hbg, hg, hnc, hcm, hcs⟩
  · clear hown1
    go_wp2_with fail
    go_loopg [9] 0 (fun g v wr => g = 0 ∧ v = .int .i64 0 ∧ wr = w1)
    case atStart => exact ⟨rfl, rfl, rfl⟩
    case round =>
      obtain ⟨rfl, rfl, rfl⟩ := hrel
      go_wp2
      go_ret
      exact ⟨_, [], rfl, rfl, Lst.nil, HB1.out⟩
  · have HG := Lib.hid (And.intro hbg (And.intro hnc (And.intro hcm hcs)))
    have HGL := Lib.hid hg.lt
    have H0 : Hid (CIL 25 gM ME.a mps ME.m xs w w1 g sp 0 w1 xs) := Lib.hid (CIL.zero HB1.out hg)
    clear hown1 hbg hg hnc hcm hcs
    go_wp2_with fail
    go_loopg [9] xs.length (fun gk v wr => ∃ (k : Nat) (ys : List ME), k + gk = xs.length ∧ v = .int .i64 k ∧ CIL 25 gM ME.a mps ME.m xs w w1 g sp k wr ys)
    case atStart => exact ⟨0, xs, by omega, rfl, H0.out⟩
    case round =>
      obtain ⟨k, ys, hkg, rfl, hci⟩ := hrel
      have HCI := Lib.hid hci
      have HK := Lib.hid hkg
      clear hci H0
      cases gk with
      | zero =>
        obtain rfl : k = xs.length := by omega
        clear hkg
        go_wp2
        go_ret
        obtain ⟨hbg, hnc, hcm, hcs⟩ := HG.out
        obtain ⟨r1, r2, r3⟩ := HCI.out.done gM_len hbg HGL.out hnc hcm hcs
        exact ⟨_, ys, rfl, r1, r2, r3⟩
      | succ gk =>
        have hlt : k < xs.length := by omega
        have hl := HCI.out.len
        have e3 : decide ((k : Int) < (xs.length : Int)) = true := decide_eq_true (by omega)
        obtain ⟨y, hy⟩ : ∃ y, ys[k]? = some y := ⟨_, List.getElem?_eq_getElem (by omega)⟩
        have hxy : xs[k]? = some y := by rw [← HCI.out.old k (Nat.le_refl _)]; exact hy
        have hload := load_msg (x := y) (row_atG gM_len HCI.out.row hy)
        have hpl : PL wr wr.heap.size y.a y.m.props := ((HS.out.2 y (List.mem_of_getElem? hxy)).below HCI.out.b0).more HCI.out.b0.size
        have hcall := HM.out y.m y.a y.c wr hpl (HP.out y (List.mem_of_getElem? hxy))
        have HLD := Lib.hid hload
        have HCA := Lib.hid hcall
        have HY := Lib.hid hy
        have j1 : (0 : Int) ≤ (k : Int) := by omega
        have j2 : (k : Int) < (xs.length : Int) := by omega
        clear hload hcall hy hxy hpl hl hkg
        go_wp2_with first
          | (refine wpList_load_v (by rfl) 25 _ rfl ⟨g, k * 9, none⟩ (by simp [Act.eval, Act.put]) _ HLD.out ?_)
        refine HCA.out.mono ?_
        rintro e w2 ⟨a2, c2, rfl, hpl2, hnew2, hb2⟩
        have hrow2 : BK 25 w2 g (ys.flatMap gM ++ sp) := HCI.out.row.step hb2
        have HROW := Lib.hid hrow2
        have HPL2 := Lib.hid hpl2
        have HNEW := Lib.hid hnew2
        have HB2 := Lib.hid hb2
        have hfit : k * 9 + 9 ≤ (ys.flatMap gM ++ sp).length := by
          rw [List.length_append, flat_len gM_len, HCI.out.len]
          omega
        clear hrow2 hpl2 hnew2 hb2 HLD HCA
        go_wp2_with first
          | (refine wpList_store_in (by rfl) 25 (.tmp 19) (.tmp 18) rfl rfl g (k * 9) 9 (by simp [Act.eval]) (msgV y.m a2 c2) rfl 25 (ys.flatMap gM ++ sp) (msgC y.m a2 c2) HROW.out rfl rfl msgSize hfit (msgC_one _ _ _) ?_; intro w3 hM hP; have M3 := Lib.hid hM; have P3 := Lib.hid hP; clear hM hP)
        go_roundg gk
        case measure => omega
        case rel =>
          obtain ⟨hbg, hnc, hcm, hcs⟩ := HG.out
          have hput := put_atG (g := gM) gM_len HY.out ⟨y.m, a2, c2⟩ 0 (msgC y.m a2 c2) sp rfl (Nat.le_refl _)
          exact ⟨k + 1, ys.set k ⟨y.m, a2, c2⟩, by have := HK.out; omega, by go_num, HCI.out.succ HY.out rfl HPL2.out HNEW.out HB2.out P3.out (by rw [← hput]; exact M3.out) hbg HGL.out⟩
end Go.Proofs.Ytgnbiicfabldbab
