/-
  Queues as plain data: entries, which of two comes first, where one belongs in an ordered list. No function of the program is walked here.
  What clone and cloneEntry of queue answer: the entries, in memory of their own. Conditions: the lists read as data; few entries, with few properties.
  What expired and precedes of queue answer, Precedes of the reference, and whether a list has an entry with a number, by the library's ContainsFunc. Conditions: the lists read as data.
  What place of queue answers, by the library's search: where an entry belongs in an ordered list. Conditions: the list reads as data, and is in order.
-/
import Derived.Test.YtjhojpghllnoiaaDoorDzA
import Derived.Test.YtjhojpghllnoiaaDoorLe
namespace Go.Proofs.YtjhojpghllnoiaaDoor
open Go.RowKit
open S2 (BK Put)

/-- an entry -/
structure En where
  k : Int
  r : Int
  t : Int
  m : Msg
def En.zero : En := ⟨0, 0, 0, Msg.zero⟩
/-- does an entry leave before another one -/
def precR (a b : En) : Bool := if a.m.prio = b.m.prio then decide (a.k < b.k) else decide (b.m.prio < a.m.prio)
theorem precR_trans {a b c : En} (h1 : precR a b = true) (h2 : precR b c = true) : precR a c = true := by
  unfold precR at *
  split at h1 <;> split at h2 <;> split <;> simp only [decide_eq_true_eq] at * <;> omega
theorem precR_anti {a b : En} (h : a.k ≠ b.k) : precR b a = !precR a b := by
  unfold precR
  by_cases h1 : a.m.prio = b.m.prio
  · rw [if_pos h1, if_pos h1.symm]
    by_cases h2 : a.k < b.k
    · rw [decide_eq_true h2, decide_eq_false (by omega)]; rfl
    · rw [decide_eq_false h2, decide_eq_true (by omega)]; rfl
  · rw [if_neg h1, if_neg (fun e => h1 e.symm)]
    by_cases h2 : b.m.prio < a.m.prio
    · rw [decide_eq_true h2, decide_eq_false (by omega)]; rfl
    · rw [decide_eq_false h2, decide_eq_true (by omega)]; rfl
theorem precR_irr (a : En) : precR a a = false := by unfold precR; simp
abbrev SortQ (l : List En) : Prop := l.Pairwise (fun a b => precR a b = true)
theorem SortQ.at_ {l : List En} (h : SortQ l) {i j : Nat} {a b : En} (hij : i < j) (ha : l[i]? = some a) (hb : l[j]? = some b) : precR a b = true := by
  obtain ⟨hi, rfl⟩ := List.getElem?_eq_some_iff.1 ha
  obtain ⟨hj, rfl⟩ := List.getElem?_eq_some_iff.1 hb
  exact List.pairwise_iff_getElem.1 h i j hi hj hij
/-- where an entry belongs -/
def posQ (l : List En) (x : En) : Nat := (l.takeWhile (precR · x)).length
def insQ (l : List En) (x : En) : List En := l.take (posQ l x) ++ x :: l.drop (posQ l x)
theorem posQ_le (l : List En) (x : En) : posQ l x ≤ l.length := by
  unfold posQ
  exact (List.takeWhile_prefix _).length_le
theorem insQ_len (l : List En) (x : En) : (insQ l x).length = l.length + 1 := by
  have := posQ_le l x
  unfold insQ
  rw [List.length_append, List.length_cons, List.length_take, List.length_drop]
  omega
/-- what a search has found out -/
structure BsQ (l : List En) (x : En) (lo hi : Nat) : Prop where
  le : lo ≤ hi
  n : hi ≤ l.length
  lt : ∀ i y, i < lo → l[i]? = some y → precR y x = true
  ge : ∀ i y, hi ≤ i → l[i]? = some y → precR y x = false
theorem BsQ.start (l : List En) (x : En) : BsQ l x 0 l.length := ⟨Nat.zero_le _, Nat.le_refl _, fun i y h => absurd h (by omega), fun i y h hy => by rw [List.getElem?_eq_none h] at hy; cases hy⟩
theorem BsQ.less {l : List En} {x : En} {lo hi m : Nat} (h : BsQ l x lo hi) (hs : SortQ l) (hm : m < hi) (hlo : lo ≤ m) {y : En} (hy : l[m]? = some y) (hp : precR y x = true) : BsQ l x (m + 1) hi :=
  ⟨hm, h.n, fun i z hi hz => by
    by_cases e : i = m
    · subst e
      rw [hy] at hz
      cases hz
      exact hp
    · exact precR_trans (hs.at_ (by omega) hz hy) hp, h.ge⟩
theorem BsQ.notless {l : List En} {x : En} {lo hi m : Nat} (h : BsQ l x lo hi) (hs : SortQ l) (hm : m < hi) (hlo : lo ≤ m) {y : En} (hy : l[m]? = some y) (hp : precR y x = false) : BsQ l x lo m :=
  ⟨hlo, by have := h.n; omega, h.lt, fun i z hi hz => by
    by_cases e : i = m
    · subst e
      rw [hy] at hz
      cases hz
      exact hp
    · cases hq : precR z x with
      | false => rfl
      | true =>
        rw [precR_trans (hs.at_ (by omega) hy hz) hq] at hp
        cases hp⟩
theorem takeWhile_len {α : Type} {p : α → Bool} : ∀ (l : List α) (i : Nat), i ≤ l.length → (∀ j y, j < i → l[j]? = some y → p y = true) → (∀ y, l[i]? = some y → p y = false) → (l.takeWhile p).length = i
  | [], i, h, _, _ => by simp at h; subst h; rfl
  | y :: r, 0, _, _, h => by
    have := h y rfl
    rw [List.takeWhile_cons_of_neg (by simp [this])]
    rfl
  | y :: r, i + 1, h, h1, h2 => by
    rw [List.takeWhile_cons_of_pos (h1 0 y (by omega) rfl), List.length_cons, takeWhile_len r i (by simp at h; omega) (fun j z hj hz => h1 (j + 1) z (by omega) hz) (fun z hz => h2 z hz)]
theorem BsQ.pos {l : List En} {x : En} {i : Nat} (h : BsQ l x i i) : posQ l x = i := takeWhile_len l i h.n h.lt (fun y hy => h.ge i y (Nat.le_refl _) hy)
end Go.Proofs.YtjhojpghllnoiaaDoor
namespace Go.Proofs.YtjhojpghllnoiaaDoor
open Go.RowKit
open S2 (BK Put)

/-- an entry in a list and where its properties lie -/
structure EE where
  x : En
  a : Option Addr
  c : Nat
abbrev enX (x : En) (a : Option Addr) (c : Nat) : List Value := enC x.k x.r x.t x.m a c
abbrev enW (x : En) (a : Option Addr) (c : Nat) : Value := enV x.k x.r x.t x.m a c
def gE (x : EE) : List Value := enX x.x x.a x.c
theorem gE_len (x : EE) : (gE x).length = 12 := rfl
theorem enX_one (x : En) (a : Option Addr) (c : Nat) : ∀ u ∈ enX x a c, u.oneCell' = true := ones rfl
theorem gE_one (x : EE) : ∀ u ∈ gE x, u.oneCell' = true := ones rfl
abbrev eps (x : EE) : List PR := x.x.m.props
/-- a list of entries that came in -/
abbrev EI (w : World) (B : Nat) (A : Option Addr) (xs : List EE) : Prop := LI gE 12 EE.a eps w B A xs
abbrev EN (w : World) (B : Nat) (A : Option Addr) (xs : List EE) : Prop := LN gE 12 EE.a eps w B A xs
abbrev OwnE (w : World) (B : Nat) (v : Value) (xs : List EE) : Prop := OwnG 34 gE 12 w B v xs
abbrev LstE (B : Nat) (w : World) (v : Value) (xs : List EE) : Prop := Lst 34 gE 12 EE.a eps B w v xs
abbrev RetLE (L : List En) (W : World) (E : Ending) (w' : World) : Prop := RetLs 34 gE 12 EE.a eps EE.x L W E w'
/-- an entry that a call answers, its properties in memory of their own -/
def RetE (x : En) (W : World) (e : Ending) (w' : World) : Prop := ∃ a c, e = .returned (enW x a c) ∧ PL w' w'.heap.size a x.m.props ∧ NewL W.heap.size a ∧ Below W.heap.size W w'
theorem enInfo : (Tryd.prog.info? 34).map (fun i => (i.zero, i.size, i.bytes)) = some (some (.agg (enX En.zero none 0).toArray), 12, 136) := by kernel_rfl
theorem enSize : (Tryd.prog.info? 34).map (·.size) = some 12 := by kernel_rfl
/-- an entry of the list is loaded -/
theorem load_ent {w : World} {b o : Nat} {x : EE} (hc : ∀ i v, (gE x)[i]? = some v → w.cell? ⟨b, o + i, none⟩ = some v) : (loadVar 34 ⟨b, o, none⟩).run Tryd.prog w = .ok (enW x.x x.a x.c) w :=
  run_load_cells w b o (gE x) 34 _ hc Tryd.underlying34 rfl enSize

set_option maxHeartbeats 1000000 in
theorem cloneE_any (A : Option Addr) (c : Nat) (xs : List EE) (w : World) (hsl : GL gE 12 w w.heap.size A xs) (hn : xs.length ≤ 100000) :
    Calls Tryd.prog 58 #[.slice A xs.length c] w fun e w' => ∃ v, e = .returned v ∧ OwnE w' w.heap.size v xs ∧ Below w.heap.size w w' := by
  have q22 : ∀ (w : World) (a : Option Addr) (n c n' c' : Nat), (binOp .eql 24 (.slice a n c) (.slice none n' c')).run Tryd.prog w = .ok (.bool a.isNone) w := fun w a n c n' c' => Lib.run_eql_slice_nil w _ _ a n c n' c' Tryd.underlying24
  cases A with
  | none =>
    have h0 : xs = [] := by
      rcases Nat.eq_zero_or_pos xs.length with h | h
      · exact List.eq_nil_of_length_eq_zero h
      · obtain ⟨b, o, e, _⟩ := hsl h; cases e
    subst h0
    clear hsl hn
    go_enter Tryd.func58, Tryd.ntmps58
    go_wp2
    go_ret
    exact ⟨_, rfl, OwnG.nil _ _, Below.refl _ _⟩
  | some a =>
    have hsl2 := hsl.step ((Below.refl _ _).alloc (Nat.le_refl _) (.cells #[] 34))
    have hb0 := (Below.refl w.heap.size w).alloc (Nat.le_refl _) (.cells #[] 34)
    have HS := Lib.hid hsl2
    clear hsl hsl2
    go_enter Tryd.func58, Tryd.ntmps58
    go_wp2_with (at_builtin; go_must (refine wpList_appG (g := gE) (k := 12) (e := 34) (by decide) _ rfl _ _ 24 24 rfl (.agg (enX En.zero none 0).toArray) 136 Tryd.underlying24 enInfo rfl (by decide) w.heap.size _ [] xs rfl (OwnG.made w 0 #[] w.heap.size (Nat.le_refl _) (by decide) rfl) _ rfl (GL.src gE_len gE_one HS.out Tryd.underlying24 c) w hb0 (by simp) (by simp; omega) ?_); intro v' w' hown' hb' hsz')
    go_ret
    exact ⟨_, rfl, hown', hb'⟩

set_option maxRecDepth 20000 in
set_option maxHeartbeats 4000000 in
theorem qCloneEntry_any (x : En) (a : Option Addr) (c : Nat) (w : World) (hsl : PL w w.heap.size a x.m.props) (hn : x.m.props.length ≤ 4398046511104) :
    Calls Tryd.prog 38 #[enW x a c] w (RetE x w) := by
  unfold enW enV
  have HC := Lib.hid (fun w1 h => cloneP_any a c x.m.props w1 h (by omega))
  have HS := Lib.hid hsl
  clear hsl hn
  go_enter Tryd.func38, Tryd.ntmps38
  go_upto_region 1 with fail
  refine name_world (C := fun w1 => Code.wp _ _ _ _ w1) ((w.alloc (.cells (enX x a c).toArray 34)).alloc (.cells (enX En.zero none 0).toArray 34)) ?_
  intro w1 hw1
  have H0 := S2.two_laid (v1 := enX x a c) (v2 := enX En.zero none 0) hw1
  clear hw1
  obtain ⟨t1, t2, hs0, hB0⟩ := H0
  have T1 := Lib.hid t1
  have T2 := Lib.hid t2
  have HB := Lib.hid hB0
  have HZ := Lib.hid hs0
  have d8 := t1.cell 11 rfl
  clear t1 t2 hB0 hs0
  go_wp2_with fail
  refine (HC.out _ (HS.out.step HB.out)).mono ?_
  rintro e w2 ⟨v2, rfl, hown2, hb2⟩
  obtain ⟨a2, c2, hv2, _, hnew, hgl⟩ := hown2.retB gP_len
  subst hv2
  have U1 := Lib.hid (T1.out.step hb2)
  have U2 := Lib.hid (T2.out.step hb2)
  have HB2 := Lib.hid (stepB HB.out hb2)
  have HZ2 := Lib.hid hb2.size
  have HG := Lib.hid hgl
  have HN := Lib.hid hnew
  have f8 := U1.out.free 11
  have g8 := U1.out.cell 11 rfl
  have hlt := U1.out.lt
  clear hb2 hown2 hgl hnew T1 T2 HB HC d8
  go_upto_region 2 with fail
  refine name_world (C := fun w3 => Code.wp _ _ _ _ w3) (w2.setCell ⟨w.heap.size, 11, none⟩ (.slice a2 x.m.props.length c2)) ?_
  intro w3 hw3
  have U1' : Hid (BK 34 w3 w.heap.size (enX x a2 c2)) := Lib.hid (by rw [hw3]; exact U1.out.set 11 _)
  have U2' : Hid (BK 34 w3 (w.heap.size + 1) (enX En.zero none 0)) := Lib.hid (by rw [hw3]; exact U2.out.other (by show w.heap.size + 1 ≠ w.heap.size; omega) _)
  have HB3 : Hid (Below w.heap.size w w3) := Lib.hid (by rw [hw3]; exact HB2.out.setCell (p := ⟨w.heap.size, 11, none⟩) (Nat.le_refl _) _)
  have HZ3 : Hid (w3.heap.size = w2.heap.size) := Lib.hid (by rw [hw3]; simp)
  have HE3 : Hid (∀ p : Addr, w1.heap.size ≤ p.block → w3.cell? p = w2.cell? p) := Lib.hid (fun p hp => by rw [hw3]; exact S2.set_other _ _ _ _ _ (by have := HZ.out; omega))
  clear hw3 U1 U2 HB2 f8 g8 hlt
  go_wp2_with first
    | (refine wpList_load_v (by rfl) 34 (.tmp 1) rfl ⟨w.heap.size, 0, none⟩ rfl (enW x a2 c2) (S2.run_load_all U1'.out Tryd.underlying34 rfl enSize) ?_)
    | (refine S2.wpList_store_all (by rfl) 34 (.tmp 2) (.tmp 9) rfl rfl (w.heap.size + 1) rfl (enX x a2 c2) rfl 34 (enX En.zero none 0) U2'.out enSize rfl (enX_one _ _ _) ?_; intro w4 hM hP; have M4 := Lib.hid hM; have P4 := Lib.hid hP; clear hM hP)
  refine bodyPost_ret (v := enW x a2 c2) (S2.res_cell rfl _ _ (w.heap.size + 1) 34 (enX x a2 c2) _ rfl M4.out Tryd.underlying34 rfl enSize) rfl ⟨a2, c2, rfl, HG.out w4 (by rw [P4.out.size, HZ3.out]; exact Nat.le_refl _) (fun p hp => ?_), fun b o e => by have := HN.out b o e; have := HZ.out; omega, P4.out.below HB3.out (by omega)⟩
  rw [P4.out.cell (by have := HZ.out; omega), HE3.out p hp]

set_option maxRecDepth 20000 in
set_option maxHeartbeats 4000000 in
theorem qClone_any (A : Option Addr) (c : Nat) (xs : List EE) (w : World) (hsl : EI w w.heap.size A xs) (hn : xs.length ≤ 100000) (hp : ∀ x ∈ xs, x.x.m.props.length ≤ 4398046511104) :
    Calls Tryd.prog 39 #[.slice A xs.length c] w (RetLE (xs.map EE.x) w) := by
  have HC := Lib.hid (cloneE_any A c xs w hsl.1 hn)
  have HM := Lib.hid (fun x a c w1 h hl => qCloneEntry_any x a c w1 h hl)
  have HS := Lib.hid hsl
  have HP := Lib.hid hp
  clear hsl hp
  go_enter Tryd.func39, Tryd.ntmps39
  go_wp2_with fail
  refine HC.out.mono ?_
  rintro e w1 ⟨v1, rfl, hown1, hb1⟩
  have HB1 := Lib.hid hb1
  clear hb1 HC
  rcases own_rowG hown1 with ⟨rfl, rfl⟩ | ⟨g, cap, sp, rfl, hbg, hg, hnc, hcm, hcs⟩
  · clear hown1
    go_wp2_with fail
    go_loopg [9] 0 (fun g v wr => g = 0 ∧ v = .int .i64 0 ∧ wr = w1)
    case atStart => exact ⟨rfl, rfl, rfl⟩
    case round =>
      obtain ⟨rfl, rfl, rfl⟩ := hrel
      go_wp2
      go_ret
      exact ⟨_, [], rfl, rfl, Lst.nil, HB1.out⟩
  · have HG := Lib.hid (And.intro hbg (And.intro hnc (And.intro hcm hcs)))
    have HGL := Lib.hid hg.lt
    have H0 : Hid (CIL 34 gE EE.a eps EE.x xs w w1 g sp 0 w1 xs) := Lib.hid (CIL.zero HB1.out hg)
    clear hown1 hbg hg hnc hcm hcs
    go_wp2_with fail
    go_loopg [9] xs.length (fun gk v wr => ∃ (k : Nat) (ys : List EE), k + gk = xs.length ∧ v = .int .i64 k ∧ CIL 34 gE EE.a eps EE.x xs w w1 g sp k wr ys)
    case atStart => exact ⟨0, xs, by omega, rfl, H0.out⟩
    case round =>
      obtain ⟨k, ys, hkg, rfl, hci⟩ := hrel
      have HCI := Lib.hid hci
      have HK := Lib.hid hkg
      clear hci H0
      cases gk with
      | zero =>
        obtain rfl : k = xs.length := by omega
        clear hkg
        go_wp2
        go_ret
        obtain ⟨hbg, hnc, hcm, hcs⟩ := HG.out
        obtain ⟨r1, r2, r3⟩ := HCI.out.done gE_len hbg HGL.out hnc hcm hcs
        exact ⟨_, ys, rfl, r1, r2, r3⟩
      | succ gk =>
        have hlt : k < xs.length := by omega
        have hl := HCI.out.len
        have e3 : decide ((k : Int) < (xs.length : Int)) = true := decide_eq_true (by omega)
        obtain ⟨y, hy⟩ : ∃ y, ys[k]? = some y := ⟨_, List.getElem?_eq_getElem (by omega)⟩
        have hxy : xs[k]? = some y := by rw [← HCI.out.old k (Nat.le_refl _)]; exact hy
        have hload := load_ent (x := y) (row_atG gE_len HCI.out.row hy)
        have hpl : PL wr wr.heap.size y.a y.x.m.props := ((HS.out.2 y (List.mem_of_getElem? hxy)).below HCI.out.b0).more HCI.out.b0.size
        have hcall := HM.out y.x y.a y.c wr hpl (HP.out y (List.mem_of_getElem? hxy))
        have HLD := Lib.hid hload
        have HCA := Lib.hid hcall
        have HY := Lib.hid hy
        have j1 : (0 : Int) ≤ (k : Int) := by omega
        have j2 : (k : Int) < (xs.length : Int) := by omega
        clear hload hcall hy hxy hpl hl hkg
        go_wp2_with first
          | (refine wpList_load_v (by rfl) 34 _ rfl ⟨g, k * 12, none⟩ (by simp [Act.eval, Act.put]) _ HLD.out ?_)
        refine HCA.out.mono ?_
        rintro e w2 ⟨a2, c2, rfl, hpl2, hnew2, hb2⟩
        have hrow2 : BK 34 w2 g (ys.flatMap gE ++ sp) := HCI.out.row.step hb2
        have HROW := Lib.hid hrow2
        have HPL2 := Lib.hid hpl2
        have HNEW := Lib.hid hnew2
        have HB2 := Lib.hid hb2
        have hfit : k * 12 + 12 ≤ (ys.flatMap gE ++ sp).length := by
          rw [List.length_append, flat_len gE_len, HCI.out.len]
          omega
        clear hrow2 hpl2 hnew2 hb2 HLD HCA
        go_wp2_with first
          | (refine wpList_store_in (by rfl) 34 (.tmp 19) (.tmp 18) rfl rfl g (k * 12) 12 (by simp [Act.eval]) (enW y.x a2 c2) rfl 34 (ys.flatMap gE ++ sp) (enX y.x a2 c2) HROW.out rfl rfl enSize hfit (enX_one _ _ _) ?_; intro w3 hM hP; have M3 := Lib.hid hM; have P3 := Lib.hid hP; clear hM hP)
        go_roundg gk
        case measure => omega
        case rel =>
          obtain ⟨hbg, hnc, hcm, hcs⟩ := HG.out
          have hput := put_atG (g := gE) gE_len HY.out ⟨y.x, a2, c2⟩ 0 (enX y.x a2 c2) sp rfl (Nat.le_refl _)
          exact ⟨k + 1, ys.set k ⟨y.x, a2, c2⟩, by have := HK.out; omega, by go_num, HCI.out.succ HY.out rfl HPL2.out HNEW.out HB2.out P3.out (by rw [← hput]; exact M3.out) hbg HGL.out⟩
end Go.Proofs.YtjhojpghllnoiaaDoor
namespace Go.Proofs.YtjhojpghllnoiaaDoor
open Go.RowKit
open S2 (BK Put)

set_option maxHeartbeats 2000000 in
theorem qExpired_any (s : Sp) (k r t : Int) (m : Msg) (a : Option Addr) (c : Nat) (now : Int) (w : World) (hs : 0 ≤ s.ttl ∧ s.ttl ≤ 1099511627776) (ha : 0 ≤ r ∧ r ≤ 1099511627776) :
    Calls Tryd.prog 37 #[spV s, enV k r t m a c, .int .i64 now] w fun e w' => e = .returned (.bool (expX s.ttl r m now)) ∧ Below w.heap.size w w' := by
  have HX := Lib.hid (fun w1 => expired_any m a c now w1)
  obtain ⟨sn, sm, st, sa, sd⟩ := s
  simp only at hs ⊢
  have hw : wrap64 (r + st) = r + st := wrap64_id _ (by omega) (by omega)
  have g1 : ∀ x y : Int, decide (x ≥ y) = decide (y ≤ x) := fun _ _ => rfl
  obtain ⟨R, hR⟩ : ∃ R, expX st r m now = R := ⟨_, rfl⟩
  rw [hR]
  unfold expX at hR
  obtain ⟨b1, hb1⟩ : ∃ b, expiredR m now = b := ⟨_, rfl⟩
  rw [hb1] at HX hR
  have HR := Lib.hid hR
  clear hs ha hR hb1
  unfold spV spC enV enC
  simp only
  unfold msgV at HX
  go_enter Tryd.func37, Tryd.ntmps37
  go_upto_region 1 with fail
  refine name_world (C := fun w1 => Code.wp _ _ _ _ w1) ((w.alloc (.cells (spC ⟨sn, sm, st, sa, sd⟩).toArray 23)).alloc (.cells (enC k r t m a c).toArray 34)) ?_
  intro w1 hw1
  have hb1 : Below w.heap.size w w1 := by rw [hw1]; exact stepB (S2.below_new w _) (S2.below_new _ _)
  have V_w1 : Hid (BK 23 w1 w.heap.size (spC ⟨sn, sm, st, sa, sd⟩)) := Lib.hid (by rw [hw1]; exact BK.alloc (BK.new w _ _) _)
  have E_w1 : Hid (BK 34 w1 (w.heap.size + 1) (enC k r t m a c)) := Lib.hid (by rw [hw1]; exact bk_new1 w _ _ _)
  have B_w1 := Lib.hid hb1
  clear hw1 hb1
  have d0 := V_w1.out.cell 2 rfl
  have d1 := E_w1.out.cell 1 rfl
  have HLM := Lib.hid (load_en_msg E_w1.out)
  unfold msgV at HLM
  by_cases h0 : st = 0
  · have q0 : (st != 0) = false := by rw [h0]; rfl
    obtain rfl : R = b1 := by rw [← HR.out, h0]; simp
    clear h0 hw
    go_wp2_with first
      | (refine wpList_load_v (by rfl) 32 _ rfl ⟨w.heap.size + 1, 3, none⟩ (by first | rfl | go_simp) _ HLM.out ?_)
    refine (HX.out w1).mono ?_
    rintro e w2 ⟨rfl, hb⟩
    have B_w2 := Lib.hid (stepB B_w1.out hb)
    clear hb d0 d1
    go_wp2
    go_ret
    exact ⟨rfl, B_w2.out⟩
  have q0 : (st != 0) = true := by simp [h0]
  by_cases h1 : r + st ≤ now
  · have q1 : decide (r + st ≤ now) = true := decide_eq_true h1
    obtain rfl : R = true := by rw [← HR.out]; simp [h0, h1]
    clear h0 h1
    go_wp2
    go_ret
    exact ⟨rfl, B_w1.out⟩
  have q1 : decide (r + st ≤ now) = false := decide_eq_false h1
  obtain rfl : R = b1 := by rw [← HR.out]; simp [h0, h1]
  clear h0 h1
  go_wp2_with first
    | (refine wpList_load_v (by rfl) 32 _ rfl ⟨w.heap.size + 1, 3, none⟩ (by first | rfl | go_simp) _ HLM.out ?_)
  refine (HX.out w1).mono ?_
  rintro e w2 ⟨rfl, hb⟩
  have B_w2 := Lib.hid (stepB B_w1.out hb)
  clear hb d0 d1
  go_wp2
  go_ret
  exact ⟨rfl, B_w2.out⟩

set_option maxHeartbeats 2000000 in
theorem qPrec_any (x y : En) (a b : Option Addr) (c d : Nat) (w : World) : Calls Tryd.prog 43 #[enW x a c, enW y b d] w fun e w' => e = .returned (.bool (precR x y)) ∧ Below w.heap.size w w' := by
  obtain ⟨R, hR⟩ : ∃ R, precR x y = R := ⟨_, rfl⟩
  rw [hR]
  unfold precR at hR
  unfold enW enV
  go_enter Tryd.func43, Tryd.ntmps43
  go_upto_region 1 with fail
  refine name_world (C := fun w1 => Code.wp _ _ _ _ w1) ((w.alloc (.cells (enX x a c).toArray 34)).alloc (.cells (enX y b d).toArray 34)) ?_
  intro w1 hw1
  obtain ⟨t1, t2, hs0, hB0⟩ := S2.two_laid (v1 := enX x a c) (v2 := enX y b d) hw1
  clear hw1
  have x0 := t1.cell 0 rfl
  have x7 := t1.cell 7 rfl
  have y0 := t2.cell 0 rfl
  have y7 := t2.cell 7 rfl
  have HB := Lib.hid hB0
  clear t1 t2 hs0 hB0
  have g1 : ∀ u v : Int, decide (u > v) = decide (v < u) := fun _ _ => rfl
  by_cases h : x.m.prio = y.m.prio
  · have q0 : (x.m.prio != y.m.prio) = false := by simp [h]
    rw [if_pos h] at hR
    clear h
    go_wp2
    go_ret
    exact ⟨rfl, HB.out⟩
  · have q0 : (x.m.prio != y.m.prio) = true := by simp [h]
    rw [if_neg h] at hR
    clear h
    go_wp2
    go_ret
    exact ⟨by first | rfl | (rw [← hR]; rfl), HB.out⟩

set_option maxHeartbeats 2000000 in
theorem rPrec_any (x y : En) (a b : Option Addr) (c d : Nat) (w : World) : Calls Tryd.prog 18 #[enW x a c, enW y b d] w fun e w' => e = .returned (.bool (precR x y)) ∧ Below w.heap.size w w' := by
  obtain ⟨R, hR⟩ : ∃ R, precR x y = R := ⟨_, rfl⟩
  rw [hR]
  unfold precR at hR
  unfold enW enV
  go_enter Tryd.func18, Tryd.ntmps18
  go_upto_region 1 with fail
  refine name_world (C := fun w1 => Code.wp _ _ _ _ w1) ((w.alloc (.cells (enX x a c).toArray 34)).alloc (.cells (enX y b d).toArray 34)) ?_
  intro w1 hw1
  obtain ⟨t1, t2, hs0, hB0⟩ := S2.two_laid (v1 := enX x a c) (v2 := enX y b d) hw1
  clear hw1
  have x0 := t1.cell 0 rfl
  have x7 := t1.cell 7 rfl
  have y0 := t2.cell 0 rfl
  have y7 := t2.cell 7 rfl
  have HB := Lib.hid hB0
  clear t1 t2 hs0 hB0
  have g1 : ∀ u v : Int, decide (u > v) = decide (v < u) := fun _ _ => rfl
  by_cases h : x.m.prio = y.m.prio
  · have q0 : (x.m.prio != y.m.prio) = false := by simp [h]
    rw [if_pos h] at hR
    clear h
    go_wp2
    go_ret
    exact ⟨rfl, HB.out⟩
  · have q0 : (x.m.prio != y.m.prio) = true := by simp [h]
    rw [if_neg h] at hR
    clear h
    go_wp2
    go_ret
    exact ⟨by first | rfl | (rw [← hR]; rfl), HB.out⟩

/-! ### Is there an entry with a number -/
def hasQ (l : List En) (k : Int) : Bool := l.any (fun y => decide (y.k = k))
def idxQ (l : List En) (k : Int) : Nat → Int := fun n => match l with
  | [] => -1
  | y :: r => if y.k = k then (n : Int) else idxQ r k (n + 1)
theorem idxQ_has : ∀ (l : List En) (k : Int) (n : Nat), decide (0 ≤ idxQ l k n) = hasQ l k
  | [], k, n => rfl
  | y :: r, k, n => by
    unfold idxQ hasQ
    by_cases h : y.k = k
    · simp [h]
    · rw [if_neg h, idxQ_has r k (n + 1)]
      unfold hasQ
      simp [h]
theorem dropE {α : Type} {X : List α} {k : Nat} {x : α} (hx : X[k]? = some x) : X.drop k = x :: X.drop (k + 1) := by
  obtain ⟨hk, rfl⟩ := List.getElem?_eq_some_iff.1 hx
  exact List.drop_eq_getElem_cons hk
theorem retIq {a b : Int} (h : a = b) : Ending.returned (.int .i64 a) = .returned (.int .i64 b) := by rw [h]
set_option maxHeartbeats 2000000 in
theorem retf_any (x : En) (a : Option Addr) (c : Nat) (e : En) (ea : Option Addr) (ec g : Nat) (w : World) (hg : BK 34 w g (enX e ea ec)) :
    Calls Tryd.prog 36 #[enW x a c, .pointer (some ⟨g, 0, none⟩)] w fun e' w' => e' = .returned (.bool (decide (x.k = e.k))) ∧ Below w.heap.size w w' := by
  unfold enW enV
  have HG := Lib.hid hg
  clear hg
  go_enter Tryd.func36, Tryd.ntmps36
  go_upto_region 1 with fail
  refine name_world (C := fun w1 => Code.wp _ _ _ _ w1) (w.alloc (.cells (enX x a c).toArray 34)) ?_
  intro w1 hw1
  have hb1 : Below w.heap.size w w1 := by rw [hw1]; exact S2.below_new w _
  have X_w1 : BK 34 w1 w.heap.size (enX x a c) := by rw [hw1]; exact BK.new w _ _
  have B_w1 := Lib.hid hb1
  have z1 := X_w1.cell 0 rfl
  have z2 := (HG.out.step hb1).cell 0 rfl
  clear hw1 hb1 X_w1
  have g1 : (x.k == e.k) = decide (x.k = e.k) := by by_cases h : x.k = e.k <;> simp [h]
  go_wp2
  go_ret
  exact ⟨by first | rfl | rw [g1] | simp [g1], B_w1.out⟩
set_option maxRecDepth 20000 in
set_option maxHeartbeats 4000000 in
theorem idxE_any (A : Option Addr) (c : Nat) (xs : List EE) (e : En) (ea : Option Addr) (ec g : Nat) (w : World) (h : EI w w.heap.size A xs) (hn : xs.length ≤ 1000000) (hg : BK 34 w g (enX e ea ec)) :
    Calls Tryd.prog 55 #[.slice A xs.length c, .func (.func 36) #[] #[.pointer (some ⟨g, 0, none⟩)]] w fun e' w' => e' = .returned (.int .i64 (idxQ (xs.map EE.x) e.k 0)) ∧ Below w.heap.size w w' := by
  have HS := Lib.hid h
  have HGB := Lib.hid hg
  have HC := Lib.hid (fun x a c w1 h1 => retf_any x a c e ea ec g w1 h1)
  obtain ⟨R, hR⟩ : ∃ R, idxQ (xs.map EE.x) e.k 0 = R := ⟨_, rfl⟩
  have HR : Hid (R = idxQ ((xs.map EE.x).drop 0) e.k 0) := Lib.hid (by rw [← hR]; rfl)
  rw [hR]
  clear h hg hR
  go_enter Tryd.func55, Tryd.ntmps55
  go_wp2
  go_loopg [8] xs.length (fun n v wr => ∃ k : Nat, k + n = xs.length ∧ v = .int .i64 k ∧ R = idxQ ((xs.map EE.x).drop k) e.k k ∧ Below w.heap.size w wr)
  case atStart => exact ⟨0, by omega, rfl, HR.out, Below.refl _ _⟩
  case round =>
    obtain ⟨k, hkg, rfl, hrel, hb0⟩ := hrel
    have HREL := Lib.hid hrel
    have HB0 := Lib.hid hb0
    have HG := Lib.hid hkg
    clear hrel hb0 HR
    cases gk with
    | zero =>
      obtain rfl : k = xs.length := by omega
      have HV : Hid (R = -1) := Lib.hid (by rw [HREL.out, List.drop_of_length_le (by simp)]; rfl)
      clear hkg
      go_wp2
      go_ret
      exact ⟨retIq HV.out.symm, HB0.out⟩
    | succ n =>
      have hlt : k < xs.length := by omega
      have e3 : decide ((k : Int) < (xs.length : Int)) = true := decide_eq_true (by omega)
      obtain ⟨x, hx⟩ : ∃ x, xs[k]? = some x := ⟨_, List.getElem?_eq_getElem hlt⟩
      obtain ⟨b, o, hA, hbB, hcl, _⟩ := LI.at_ (HS.out.step HB0.out) hx
      have HLD := Lib.hid (load_ent hcl)
      have HGI := Lib.hid (HGB.out.step HB0.out)
      have hxm : (xs.map EE.x)[k]? = some x.x := by rw [List.getElem?_map, hx]; rfl
      have HD : Hid (R = if x.x.k = e.k then (k : Int) else idxQ ((xs.map EE.x).drop (k + 1)) e.k (k + 1)) := Lib.hid (by rw [HREL.out, dropE hxm]; rfl)
      subst hA
      have j1 : (0 : Int) ≤ (k : Int) := by omega
      have j2 : (k : Int) < (xs.length : Int) := by omega
      clear hx hkg hlt hbB hcl HREL hxm
      go_wp2_with first
        | (refine wpList_load_v (by rfl) 34 _ rfl ⟨b, o + k * 12, none⟩ (by go_simp) _ HLD.out ?_)
      refine (HC.out x.x x.a x.c _ HGI.out).mono ?_
      rintro e' w1 ⟨rfl, hb⟩
      have HB1 := Lib.hid (stepB HB0.out hb)
      clear hb HLD
      by_cases hxy : x.x.k = e.k
      · have HV : Hid (R = (k : Int)) := Lib.hid (by rw [HD.out, if_pos hxy])
        rw [decide_eq_true hxy]
        clear hxy
        go_wp2_with fail
        go_ret
        exact ⟨retIq HV.out.symm, HB1.out⟩
      · have HV : Hid (R = idxQ ((xs.map EE.x).drop (k + 1)) e.k (k + 1)) := Lib.hid (by rw [HD.out, if_neg hxy])
        rw [decide_eq_false hxy]
        clear hxy
        go_wp2_with fail
        go_roundg n
        case measure => omega
        case rel => exact ⟨k + 1, by have := HG.out; omega, by go_num, HV.out, HB1.out⟩
set_option maxHeartbeats 2000000 in
theorem contE_any (A : Option Addr) (c : Nat) (xs : List EE) (e : En) (ea : Option Addr) (ec g : Nat) (w : World) (h : EI w w.heap.size A xs) (hn : xs.length ≤ 1000000) (hg : BK 34 w g (enX e ea ec)) :
    Calls Tryd.prog 35 #[.slice A xs.length c, .func (.func 36) #[] #[.pointer (some ⟨g, 0, none⟩)]] w fun e' w' => e' = .returned (.bool (hasQ (xs.map EE.x) e.k)) ∧ Below w.heap.size w w' := by
  have HI := Lib.hid (idxE_any A c xs e ea ec g w h hn hg)
  have HX := Lib.hid (idxQ_has (xs.map EE.x) e.k 0)
  generalize idxQ (xs.map EE.x) e.k 0 = R at *
  generalize hasQ (xs.map EE.x) e.k = b at *
  have g1 : decide (R ≥ 0) = b := HX.out
  have g2 : decide (0 ≤ R) = b := HX.out
  clear h hg
  go_enter Tryd.func35, Tryd.ntmps35
  go_wp2_with fail
  refine HI.out.mono ?_
  rintro e' w1 ⟨rfl, hb⟩
  have HB1 := Lib.hid hb
  clear hb HI
  go_wp2
  go_ret
  exact ⟨by first | rfl | rw [g1], HB1.out⟩
end Go.Proofs.YtjhojpghllnoiaaDoor
namespace Go.Proofs.YtjhojpghllnoiaaDoor
open Go.RowKit
open S2 (BK Put get_ops)

theorem load_en0 {w : World} {g : Nat} {x : En} {a : Option Addr} {c : Nat} (h : BK 34 w g (enX x a c)) : (loadVar 34 ⟨g, 0, none⟩).run Tryd.prog w = .ok (enW x a c) w := S2.run_load_all h Tryd.underlying34 rfl enSize
theorem bk_new2 (w : World) (o o' : Obj) (T : TypeId) (vs : List Value) : BK T (((w.alloc o).alloc o').alloc (.cells vs.toArray T)) (w.heap.size + 2) vs := by
  have h := BK.new ((w.alloc o).alloc o') T vs
  have e : ((w.alloc o).alloc o').heap.size = w.heap.size + 2 := by simp
  rwa [e] at h
/-- what the closure of place holds -/
structure CapE (T1 T2 : TypeId) (w : World) (g1 g2 g3 : Nat) (A : Option Addr) (c : Nat) (l : List EE) (x : En) (xa : Option Addr) (xc : Nat) : Prop where
  f : BK T1 w g1 [(.func (.func 43) #[] #[])]
  s : BK T2 w g2 [.slice A l.length c]
  e : BK 34 w g3 (enX x xa xc)
  l : EI w w.heap.size A l
theorem CapE.step {T1 T2 : TypeId} {w w' : World} {g1 g2 g3 : Nat} {A : Option Addr} {c : Nat} {l : List EE} {x : En} {xa : Option Addr} {xc : Nat} (h : CapE T1 T2 w g1 g2 g3 A c l x xa xc) (hb : Below w.heap.size w w') : CapE T1 T2 w' g1 g2 g3 A c l x xa xc :=
  ⟨h.f.step hb, h.s.step hb, h.e.step hb, h.l.step hb⟩
set_option maxRecDepth 20000 in
set_option maxHeartbeats 4000000 in
theorem placef_any (T1 T2 : TypeId) (g1 g2 g3 : Nat) (A : Option Addr) (c : Nat) (l : List EE) (x : En) (xa : Option Addr) (xc : Nat) (i : Nat) (y : EE) (w : World) (h : CapE T1 T2 w g1 g2 g3 A c l x xa xc) (hy : l[i]? = some y) :
    Calls Tryd.prog 71 #[.int .i64 (i : Int), .pointer (some ⟨g1, 0, none⟩), .pointer (some ⟨g2, 0, none⟩), .pointer (some ⟨g3, 0, none⟩)] w fun e w' => e = .returned (.bool (!precR y.x x)) ∧ Below w.heap.size w w' := by
  have HP := Lib.hid (fun w1 => qPrec_any y.x x y.a xa y.c xc w1)
  generalize precR y.x x = b at HP ⊢
  have hi : i < l.length := (List.getElem?_eq_some_iff.1 hy).1
  obtain ⟨p, o, hA, hbB, hcl, _⟩ := LI.at_ h.l hy
  subst hA
  have j1 : (0 : Int) ≤ (i : Int) := by omega
  have j2 : (i : Int) < (l.length : Int) := by omega
  have HY := Lib.hid hy
  have C_w := Lib.hid h
  have B_w : Hid (Below w.heap.size w w) := Lib.hid (Below.refl _ _)
  have J := Lib.hid (And.intro j1 j2)
  have HAT : ∀ w' : World, CapE T1 T2 w' g1 g2 g3 (some ⟨p, o, none⟩) c l x xa xc → (loadVar 34 ⟨p, o + i * 12, none⟩).run Tryd.prog w' = .ok (enW y.x y.a y.c) w' := fun w' h' => by
    obtain ⟨p', o', hA', _, hcl', _⟩ := LI.at_ h'.l HY.out
    simp only [Option.some.injEq, Addr.mk.injEq, and_true] at hA'
    obtain ⟨rfl, rfl⟩ := hA'
    exact load_ent hcl'
  have HLD := Lib.hid HAT
  clear HAT h hy hcl hbB
  go_enter Tryd.func71, Tryd.ntmps71
  go_upto_region 1 with fail
  obtain ⟨x1, hx1⟩ : ∃ x1, x1 = World.drew w := ⟨_, rfl⟩
  have hbD : Below w.heap.size w x1 := by rw [hx1]; exact (Below.refl _ _).drew
  have C_x1 : Hid (CapE T1 T2 x1 g1 g2 g3 (some ⟨p, o, none⟩) c l x xa xc) := Lib.hid (C_w.out.step hbD)
  have B_x1 : Hid (Below w.heap.size w x1) := Lib.hid (stepB B_w.out hbD)
  clear C_w B_w
  have hbd : (fun w' => CapE T1 T2 w' g1 g2 g3 (some ⟨p, o, none⟩) c l x xa xc) (World.drew w) := by rw [← hx1]; exact C_x1.out
  have hSD : (fun w' => CapE T1 T2 w' g1 g2 g3 (some ⟨p, o, none⟩) c l x xa xc) x1 := C_x1.out
  have HWD := Lib.hid hx1
  clear hx1 hbD
  refine wp_region_held_drew (S := fun w' => CapE T1 T2 w' g1 g2 g3 (some ⟨p, o, none⟩) c l x xa xc) (by kernel_rfl) hbd (fun hHeld => ?_)
  rw [← HWD.out]
  clear hHeld
  have hHeld := hSD
  clear hSD hbd HWD
  refine wpAnyH_take (i := 0) (v := (.func (.func 43) #[] #[])) (get_ops _ _ _ rfl) (by kernel_rfl) (by kernel_rfl) (by kernel_rfl) (fun _ _ _ h => h) (Or.inl ⟨by rfl, fun wS hSw => by (try dsimp only at hSw); have cS : wS.cell? ⟨g1, 0, none⟩ = some (.func (.func 43) #[] #[]) := hSw.f.cell 0 rfl; clear hSw; go_simp⟩) hHeld ?_
  try simp only [Act.put, List.setIfInBounds_toArray, List.set_cons_zero, List.set_cons_succ]
  refine wpAnyH_take (i := 1) (v := (.slice (some ⟨p, o, none⟩) l.length c)) (get_ops _ _ _ rfl) (by kernel_rfl) (by kernel_rfl) (by kernel_rfl) (fun _ _ _ h => h) (Or.inl ⟨by rfl, fun wS hSw => by (try dsimp only at hSw); have cS : wS.cell? ⟨g2, 0, none⟩ = some (.slice (some ⟨p, o, none⟩) l.length c) := hSw.s.cell 0 rfl; clear hSw; go_simp⟩) hHeld ?_
  try simp only [Act.put, List.setIfInBounds_toArray, List.set_cons_zero, List.set_cons_succ]
  refine wpAnyH_take (i := 2) (v := .int .i64 (i : Int)) (get_ops _ _ _ rfl) (by kernel_rfl) (by kernel_rfl) (by kernel_rfl) (fun _ _ _ h => h) (Or.inl ⟨by rfl, fun wS hSw => by (try dsimp only at hSw); go_simp⟩) hHeld ?_
  try simp only [Act.put, List.setIfInBounds_toArray, List.set_cons_zero, List.set_cons_succ]
  refine wpAnyH_take (i := 3) (v := .pointer (some ⟨p, o + i * 12, none⟩)) (get_ops _ _ _ rfl) (by kernel_rfl) (by kernel_rfl) (by kernel_rfl) (fun _ _ _ h => h) (Or.inl ⟨by rfl, fun wS hSw => by (try dsimp only at hSw); clear hSw; go_simp⟩) hHeld ?_
  try simp only [Act.put, List.setIfInBounds_toArray, List.set_cons_zero, List.set_cons_succ]
  refine wpAnyH_take (i := 4) (v := (enW y.x y.a y.c)) (get_ops _ _ _ rfl) (by kernel_rfl) (by kernel_rfl) (by kernel_rfl) (fun _ _ _ h => h) (Or.inl ⟨by rfl, fun wS hSw => by (try dsimp only at hSw); exact exec_load 34 _ rfl ⟨p, o + i * 12, none⟩ (by go_simp) _ (HLD.out wS hSw)⟩) hHeld ?_
  try simp only [Act.put, List.setIfInBounds_toArray, List.set_cons_zero, List.set_cons_succ]
  refine wpAnyH_take (i := 5) (v := (enW x xa xc)) (get_ops _ _ _ rfl) (by kernel_rfl) (by kernel_rfl) (by kernel_rfl) (fun _ _ _ h => h) (Or.inl ⟨by rfl, fun wS hSw => by (try dsimp only at hSw); exact exec_load 34 _ rfl ⟨g3, 0, none⟩ (by go_simp) _ (load_en0 hSw.e)⟩) hHeld ?_
  try simp only [Act.put, List.setIfInBounds_toArray, List.set_cons_zero, List.set_cons_succ]
  refine wpAnyH_ready (rs := [6]) (by kernel_rfl) (by simp) ?_
  refine (AllReadyH.cons (get_ops _ _ _ rfl) (fun K hK => ?_) AllReadyH.nil)
  go_simp
  refine (HP.out x1).mono ?_
  rintro e x2 ⟨rfl, hb⟩
  have C_x2 : Hid (CapE T1 T2 x2 g1 g2 g3 (some ⟨p, o, none⟩) c l x xa xc) := Lib.hid (C_x1.out.step hb)
  have B_x2 : Hid (Below w.heap.size w x2) := Lib.hid (stepB B_x1.out hb)
  clear C_x1 B_x1
  clear hHeld hb
  go_wp2_with fail
  refine hK.out _ _ C_x2.out (fun hHeld => ?_)
  clear hK K
  try simp only [Act.put, List.setIfInBounds_toArray, List.set_cons_zero, List.set_cons_succ]
  refine wpAnyH_take (i := 7) (v := .bool (!b)) (get_ops _ _ _ rfl) (by kernel_rfl) (by kernel_rfl) (by kernel_rfl) (fun _ _ _ h => h) (Or.inl ⟨by rfl, fun wS hSw => by (try dsimp only at hSw); go_simp⟩) hHeld ?_
  try simp only [Act.put, List.setIfInBounds_toArray, List.set_cons_zero, List.set_cons_succ]
  refine wpAnyH_take (i := 8) (v := .bool (!b)) (get_ops _ _ _ rfl) (by kernel_rfl) (by kernel_rfl) (by kernel_rfl) (fun _ _ _ h => h) (Or.inl ⟨by rfl, fun wS hSw => by (try dsimp only at hSw); go_simp⟩) hHeld ?_
  try simp only [Act.put, List.setIfInBounds_toArray, List.set_cons_zero, List.set_cons_succ]
  refine wpAnyH_done (by kernel_rfl) ?_ _
  go_wp2
  go_ret
  exact ⟨rfl, B_x2.out⟩

set_option maxRecDepth 20000 in
set_option maxHeartbeats 4000000 in
theorem searchE_any (T1 T2 : TypeId) (g1 g2 g3 : Nat) (A : Option Addr) (c : Nat) (l : List EE) (x : En) (xa : Option Addr) (xc : Nat) (w : World) (h : CapE T1 T2 w g1 g2 g3 A c l x xa xc) (hs : SortQ (l.map EE.x)) (hn : l.length ≤ 100000) :
    Calls Tryd.prog 70 #[.int .i64 (l.length : Int), .func (.func 71) #[] #[.pointer (some ⟨g1, 0, none⟩), .pointer (some ⟨g2, 0, none⟩), .pointer (some ⟨g3, 0, none⟩)]] w fun e w' => e = .returned (.int .i64 (posQ (l.map EE.x) x : Nat)) ∧ Below w.heap.size w w' := by
  have HC := Lib.hid h
  have HSO := Lib.hid hs
  have HCK := Lib.hid (fun i y w1 h1 h2 => placef_any T1 T2 g1 g2 g3 A c l x xa xc i y w1 h1 h2)
  have HP := Lib.hid (fun i h => @BsQ.pos (l.map EE.x) x i h)
  have H0 : Hid (BsQ (l.map EE.x) x 0 l.length) := Lib.hid (by have := BsQ.start (l.map EE.x) x; rwa [List.length_map] at this)
  generalize posQ (l.map EE.x) x = pk at HP ⊢
  clear h hs
  go_enter Tryd.func70, Tryd.ntmps70
  go_wp2
  go_loopg [5, 6] l.length (fun g s9 s10 wr => ∃ lo hi : Nat, s9 = .int .i64 lo ∧ s10 = .int .i64 hi ∧ hi - lo ≤ g ∧ BsQ (l.map EE.x) x lo hi ∧ Below w.heap.size w wr)
  case atStart => exact ⟨0, l.length, rfl, rfl, by omega, H0.out, Below.refl _ _⟩
  case round =>
    obtain ⟨lo, hi, rfl, rfl, hg, hrel, hb⟩ := hrel
    have HR := Lib.hid hrel
    have HB := Lib.hid hb
    have hlh := hrel.le
    have hhn : hi ≤ l.length := by have := hrel.n; rwa [List.length_map] at this
    clear hrel
    by_cases hlt : lo < hi
    · obtain ⟨y, hy⟩ : ∃ y, l[(lo + hi) / 2]? = some y := ⟨_, List.getElem?_eq_getElem (by omega)⟩
      have hym : (l.map EE.x)[(lo + hi) / 2]? = some y.x := by rw [List.getElem?_map, hy]; rfl
      have HX := Lib.hid hym
      have HC1 := Lib.hid (HCK.out _ y wr (HC.out.step hb) hy)
      clear hb hy hym
      cases hl : precR y.x x with
      | true =>
        have HN := Lib.hid (HR.out.less HSO.out (by omega) (by omega) HX.out hl)
        rw [hl] at HC1
        clear hl
        go_wp2_with fail
        refine HC1.out.mono ?_
        rintro e w1 ⟨rfl, hb1⟩
        have HB1 := Lib.hid (stepB HB.out hb1)
        clear hb1
        go_wp2
        go_roundg (hi - ((lo + hi) / 2 + 1))
        case measure => omega
        case rel => exact ⟨(lo + hi) / 2 + 1, hi, by rw [show ((lo : Int) + (hi : Int)) / 2 + 1 = (((lo + hi) / 2 + 1 : Nat) : Int) by omega], rfl, Nat.le_refl _, HN.out, HB1.out⟩
      | false =>
        have HN := Lib.hid (HR.out.notless HSO.out (by omega) (by omega) HX.out hl)
        rw [hl] at HC1
        clear hl
        go_wp2_with fail
        refine HC1.out.mono ?_
        rintro e w1 ⟨rfl, hb1⟩
        have HB1 := Lib.hid (stepB HB.out hb1)
        clear hb1
        go_wp2
        go_roundg ((lo + hi) / 2 - lo)
        case measure => omega
        case rel => exact ⟨lo, (lo + hi) / 2, rfl, by rw [show ((lo : Int) + (hi : Int)) / 2 = (((lo + hi) / 2 : Nat) : Int) by omega], Nat.le_refl _, HN.out, HB1.out⟩
    · obtain rfl : hi = lo := by omega
      have HPK := Lib.hid (HP.out _ HR.out)
      clear hb
      go_wp2
      go_ret
      exact ⟨by rw [HPK.out]; rfl, HB.out⟩

set_option maxHeartbeats 4000000 in
theorem place_any (A : Option Addr) (c : Nat) (l : List EE) (x : En) (xa : Option Addr) (xc : Nat) (w : World) (hsl : EI w w.heap.size A l) (hs : SortQ (l.map EE.x)) (hn : l.length ≤ 100000) :
    Calls Tryd.prog 54 #[.slice A l.length c, enW x xa xc, (.func (.func 43) #[] #[])] w fun e w' => e = .returned (.int .i64 (posQ (l.map EE.x) x : Nat)) ∧ Below w.heap.size w w' := by
  have HS := Lib.hid hsl
  have HSE := Lib.hid (fun T1 T2 g1 g2 g3 w1 h => searchE_any T1 T2 g1 g2 g3 A c l x xa xc w1 h hs hn)
  generalize posQ (l.map EE.x) x = pk at HSE ⊢
  clear hsl hs
  unfold enW enV
  go_enter Tryd.func54, Tryd.ntmps54
  go_upto_region 1 with fail
  refine name_world (C := fun w1 => Code.wp _ _ _ _ w1) (((w.alloc (.cells #[.slice A l.length c] 24)).alloc (.cells (enX x xa xc).toArray 34)).alloc (.cells #[(.func (.func 43) #[] #[])] _)) ?_
  intro w1 hw1
  have hb1 : Below w.heap.size w ((w.alloc (.cells #[.slice A l.length c] 24)).alloc (.cells (enX x xa xc).toArray 34)) := stepB (S2.below_new w _) (S2.below_new _ _)
  have hb2 : Below w.heap.size w w1 := by rw [hw1]; exact stepB hb1 (S2.below_new _ _)
  have hC := CapE.mk (T1 := _) (T2 := 24) (w := w1) (g1 := w.heap.size + 2) (g2 := w.heap.size) (g3 := w.heap.size + 1) (A := A) (c := c) (l := l) (x := x) (xa := xa) (xc := xc) (by rw [hw1]; exact bk_new2 w _ _ _ [(.func (.func 43) #[] #[])]) (by rw [hw1]; exact BK.alloc (BK.alloc (BK.new w _ _) _) _) (by rw [hw1]; exact BK.alloc (bk_new1 w _ _ _) _) (HS.out.step hb2)
  have C1 := Lib.hid hC
  have B1 := Lib.hid hb2
  have d0 := hC.s.cell 0 rfl
  clear hw1 hb1 hb2 hC
  go_wp2_with fail
  refine (HSE.out _ _ _ _ _ w1 C1.out).mono ?_
  rintro e w2 ⟨rfl, hb⟩
  have B2 := Lib.hid (stepB B1.out hb)
  clear hb d0
  go_wp2
  go_ret
  exact ⟨rfl, B2.out⟩
end Go.Proofs.YtjhojpghllnoiaaDoor
