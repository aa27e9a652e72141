/-
  What cloneItems of inflight answers: the items, in memory of their own. Conditions: the items read as data; few of them, with few properties.
-/
import Derived.Test.YtjpikgphfhjilaaGreatDoorWc
namespace Go.Proofs.YtjpikgphfhjilaaGreatDoor
open Go.RowKit
open S2 (BK Put)

section
variable {P : Program}
/-- a part of block g is written over -/
theorem wpList_store_in {ops : Array Oper} {rest : List Oper} {o : Oper} {a : Act} {w : World} {Q : Exit → Act → World → Prop} (hgd : Region.wanted o (yielded ops a.tmps) = true) (ty : TypeId) (x y : Operand) (ho : o.op = .store ty x y) (hd : o.dst = none) (g off n : Nat) (hx : a.eval x = .pointer (some ⟨g, off, none⟩))
    (v : Value) (hy : a.eval y = v) (T : TypeId) (vs cs : List Value) (hM : BK T w g vs) (hv : v.cells = cs.toArray) (hn : cs.length = n) (hi : (P.info? ty).map (·.size) = some n) (hf : off + n ≤ vs.length) (h1 : ∀ u ∈ cs, u.oneCell' = true)
    (h : ∀ w', BK T w' g (putC vs off cs) → Put g w w' → wpList P ops Q rest a w') : wpList P ops Q (o :: rest) a w :=
  wpList_wanted hgd fun _ hK => wp_store ty x y ho hd _ hx v hy _ (run_store_part w g off n T ty vs cs v hv hn hi hM hf h1) (hK _ _ (h _ (MT.put hM off cs) (S2.put_row w g _)))
end
theorem putC_mid (L M R cs : List Value) (h : cs.length = M.length) : putC (L ++ M ++ R) L.length cs = L ++ cs ++ R := by
  unfold putC
  rw [List.append_assoc L M R, List.take_left' rfl, h]
  congr 1
  rw [← List.append_assoc, ← List.length_append, List.drop_left' rfl]
theorem set_mid (L R : List Value) (u v : Value) : (L ++ u :: R).set L.length v = L ++ v :: R := by
  rw [List.set_append_right _ _ (Nat.le_refl _), Nat.sub_self]; rfl
theorem split_at {α : Type} {xs : List α} {k : Nat} {x : α} (h : xs[k]? = some x) : xs = xs.take k ++ x :: xs.drop (k + 1) ∧ (xs.take k).length = k := by
  obtain ⟨hk, rfl⟩ := List.getElem?_eq_some_iff.1 h
  exact ⟨by rw [← List.drop_eq_getElem_cons hk, List.take_append_drop], by rw [List.length_take]; omega⟩
theorem set_split {α : Type} {xs : List α} {k : Nat} {x : α} (h : xs[k]? = some x) (y : α) : xs.set k y = xs.take k ++ y :: xs.drop (k + 1) := by
  obtain ⟨hk, _⟩ := List.getElem?_eq_some_iff.1 h
  rw [List.set_eq_take_append_cons_drop, if_pos hk]
/-- an item's message is written over -/
theorem put_item {xs : List FE} {k : Nat} {x : FE} (h : xs[k]? = some x) (m : Msg) (a : Option Addr) (c : Nat) (sp : List Value) : putC (xs.flatMap gF ++ sp) (k * 11 + 2) (msgC m a c) = (xs.set k ⟨⟨x.f.id, x.f.st, m⟩, a, c⟩).flatMap gF ++ sp := by
  obtain ⟨e, hl⟩ := split_at h
  have e2 := set_split h (⟨⟨x.f.id, x.f.st, m⟩, a, c⟩ : FE)
  rw [e2]
  conv => lhs; rw [e]
  rw [List.flatMap_append, List.flatMap_cons, List.flatMap_append, List.flatMap_cons]
  have h1 : ((xs.take k).flatMap gF).length = k * 11 := by rw [flat_len gF_len, hl]
  generalize (xs.take k).flatMap gF = L at h1 ⊢
  have h2 : (L ++ [Value.int .i64 x.f.id, Value.int .i64 x.f.st]).length = k * 11 + 2 := by simp [h1]
  have h3 := putC_mid (L ++ [Value.int .i64 x.f.id, Value.int .i64 x.f.st]) (msgC x.f.m x.a x.c) ((xs.drop (k + 1)).flatMap gF ++ sp) (msgC m a c) rfl
  rw [h2] at h3
  have e3 : L ++ (gF x ++ (xs.drop (k + 1)).flatMap gF) ++ sp = L ++ [Value.int .i64 x.f.id, Value.int .i64 x.f.st] ++ msgC x.f.m x.a x.c ++ ((xs.drop (k + 1)).flatMap gF ++ sp) := by simp [gF, msgC]
  rw [e3, h3]
  simp [gF, msgC]
/-- its state is written over -/
theorem set_item {xs : List FE} {k : Nat} {x : FE} (h : xs[k]? = some x) (s : Int) (sp : List Value) : (xs.flatMap gF ++ sp).set (k * 11 + 1) (.int .i64 s) = (xs.set k ⟨{ x.f with st := s }, x.a, x.c⟩).flatMap gF ++ sp := by
  obtain ⟨e, hl⟩ := split_at h
  have e2 := set_split h (⟨{ x.f with st := s }, x.a, x.c⟩ : FE)
  rw [e2]
  conv => lhs; rw [e]
  rw [List.flatMap_append, List.flatMap_cons, List.flatMap_append, List.flatMap_cons]
  have h1 : ((xs.take k).flatMap gF).length = k * 11 := by rw [flat_len gF_len, hl]
  generalize (xs.take k).flatMap gF = L at h1 ⊢
  have h2 : (L ++ [Value.int .i64 x.f.id]).length = k * 11 + 1 := by simp [h1]
  have h3 := set_mid (L ++ [Value.int .i64 x.f.id]) (msgC x.f.m x.a x.c ++ ((xs.drop (k + 1)).flatMap gF ++ sp)) (.int .i64 x.f.st) (.int .i64 s)
  rw [h2] at h3
  have e3 : L ++ (gF x ++ (xs.drop (k + 1)).flatMap gF) ++ sp = L ++ [Value.int .i64 x.f.id] ++ Value.int .i64 x.f.st :: (msgC x.f.m x.a x.c ++ ((xs.drop (k + 1)).flatMap gF ++ sp)) := by simp [gF, msgC]
  rw [e3, h3]
  simp [gF, msgC]
theorem row_item {w : World} {T : TypeId} {g : Nat} {xs : List FE} {sp : List Value} (h : BK T w g (xs.flatMap gF ++ sp)) {k : Nat} {x : FE} (hx : xs[k]? = some x) : ∀ i v, (gF x)[i]? = some v → w.cell? ⟨g, k * 11 + i, none⟩ = some v := fun i v hv => by
  have hi : i < 11 := by rw [← gF_len x]; exact (List.getElem?_eq_some_iff.1 hv).1
  refine h.cell _ ?_
  have hk : k < xs.length := (List.getElem?_eq_some_iff.1 hx).1
  rw [List.getElem?_append_left (by rw [flat_len gF_len]; omega), flat_at gF_len xs k x i hx hi]
  exact hv
theorem PL.put {w w' : World} {B g : Nat} {A : Option Addr} {xs : List PR} (h : PL w B A xs) (hp : Put g w w') (hne : ∀ b o, A = some ⟨b, o, none⟩ → b ≠ g) : PL w' B A xs := fun hn => by
  obtain ⟨b, o, e, hb, hc⟩ := h hn
  exact ⟨b, o, e, hb, fun j x i v hx hv => (hp.cell (p := ⟨b, o + j * 2 + i, none⟩) (hne b o e)).trans (hc j x i v hx hv)⟩
theorem own_rowF {w : World} {B : Nat} {v : Value} {xs : List FE} (h : OwnF w B v xs) : (v = .slice none 0 0 ∧ xs = []) ∨ ∃ g cap sp, v = .slice (some ⟨g, 0, none⟩) xs.length cap ∧ B ≤ g ∧ BK 60 w g (xs.flatMap gF ++ sp) ∧ xs.length ≤ cap ∧ cap ≤ maxLen ∧ (xs.flatMap gF ++ sp).length = cap * 11 := by
  unfold OwnF OwnG at h
  rcases h.2 with ⟨rfl, hn⟩ | ⟨g, cap, cur, rfl, hb, hg, hnc, hcm, hcs, htake⟩
  · exact .inl ⟨rfl, List.eq_nil_of_length_eq_zero hn⟩
  · refine .inr ⟨g, cap, cur.toList.drop (xs.length * 11), rfl, hb, ?_, hnc, hcm, ?_⟩
    · unfold BK; rw [← htake, List.take_append_drop]; simpa using hg
    · rw [← htake, List.take_append_drop]; simpa using hcs
theorem row_ownF {w : World} {B g cap : Nat} {xs : List FE} {sp : List Value} (hb : B ≤ g) (hg : BK 60 w g (xs.flatMap gF ++ sp)) (hnc : xs.length ≤ cap) (hcm : cap ≤ maxLen) (hl : (xs.flatMap gF ++ sp).length = cap * 11) : OwnF w B (.slice (some ⟨g, 0, none⟩) xs.length cap) xs := by
  unfold OwnF OwnG
  exact ⟨flat_len gF_len xs, .inr ⟨g, cap, (xs.flatMap gF ++ sp).toArray, rfl, hb, hg, hnc, hcm, by simpa using hl, by
    show (xs.flatMap gF ++ sp).take (xs.length * 11) = _
    rw [← flat_len gF_len xs, List.take_left' rfl]⟩⟩

/-- items that a call answers, in memory of their own, with that of their properties -/
def RetF (F : List Fl) (W : World) (e : Ending) (w' : World) : Prop := ∃ v ys, e = .returned v ∧ ys.map FE.f = F ∧ OwnF w' W.heap.size v ys ∧ (∃ M, W.heap.size ≤ M ∧ (∀ g n c, v = .slice (some ⟨g, 0, none⟩) n c → g < M) ∧ ∀ y ∈ ys, PL w' w'.heap.size y.a y.f.m.props ∧ NewL M y.a) ∧ Below W.heap.size W w'

/-- behind round k: the items up to k have properties of their own -/
structure CI (xs : List FE) (w w1 : World) (g cap : Nat) (sp : List Value) (k : Nat) (wr : World) (ys : List FE) : Prop where
  same : ys.map FE.f = xs.map FE.f
  row : BK 60 wr g (ys.flatMap gF ++ sp)
  new : ∀ j y, j < k → ys[j]? = some y → PL wr wr.heap.size y.a y.f.m.props ∧ NewL w1.heap.size y.a
  old : ∀ j, k ≤ j → ys[j]? = xs[j]?
  b0 : Below w.heap.size w wr
  b1 : w1.heap.size ≤ wr.heap.size
theorem getSame {xs ys : List FE} (h : ys.map FE.f = xs.map FE.f) {k : Nat} {y : FE} (hy : ys[k]? = some y) : ∃ x, xs[k]? = some x ∧ x.f = y.f := by
  have h1 : (ys.map FE.f)[k]? = some y.f := by rw [List.getElem?_map, hy]; rfl
  rw [h, List.getElem?_map] at h1
  cases hx : xs[k]? with
  | none => rw [hx] at h1; cases h1
  | some x => rw [hx] at h1; exact ⟨x, rfl, Option.some.inj h1⟩
theorem sameLen {xs ys : List FE} (h : ys.map FE.f = xs.map FE.f) : ys.length = xs.length := by have := congrArg List.length h; simpa using this

set_option maxRecDepth 20000 in
set_option maxHeartbeats 4000000 in
theorem cloneItems_any (A : Option Addr) (c : Nat) (xs : List FE) (w : World) (hsl : FI w w.heap.size A xs) (hn : xs.length ≤ 100000) (hp : ∀ x ∈ xs, x.f.m.props.length ≤ 100000) :
    Calls Tryz.prog 20 #[.slice A xs.length c] w (RetF (xs.map FE.f) w) := by
  have HC := Lib.hid (cloneF_any A c xs w hsl.1 hn)
  have HM := Lib.hid (fun m a c w1 h hl => cloneMessage_any m a c w1 h hl)
  have HS := Lib.hid hsl
  have HP := Lib.hid hp
  clear hsl hp
  go_enter Tryz.func20, Tryz.ntmps20
  go_wp2_with fail
  refine HC.out.mono ?_
  rintro e w1 ⟨v1, rfl, hown1, hb1⟩
  have HB1 := Lib.hid hb1
  clear hb1 HC
  rcases own_rowF hown1 with ⟨rfl, rfl⟩ | ⟨g, cap, sp, rfl, hbg, hg, hnc, hcm, hcs⟩
  · clear hown1
    go_wp2_with fail
    go_loopg [9] 0 (fun g v wr => g = 0 ∧ v = .int .i64 0 ∧ wr = w1)
    case atStart => exact ⟨rfl, rfl, rfl⟩
    case round =>
      obtain ⟨rfl, rfl, rfl⟩ := hrel
      go_wp2
      go_ret
      exact ⟨_, [], rfl, rfl, OwnG.nil _ _, ⟨_, Nat.le_refl _, (fun g n c e => by cases e), (fun y hy => by cases hy)⟩, HB1.out⟩
  · have HG := Lib.hid (And.intro hbg (And.intro hnc (And.intro hcm hcs)))
    have hgl := hg.lt
    have H0 : Hid (CI xs w w1 g cap sp 0 w1 xs) := Lib.hid ⟨rfl, hg, fun j y h => absurd h (by omega), fun j _ => rfl, HB1.out, Nat.le_refl _⟩
    have HGL := Lib.hid hgl
    clear hown1 hbg hg hnc hcm hcs hgl
    go_wp2_with fail
    go_loopg [9] xs.length (fun gk v wr => ∃ (k : Nat) (ys : List FE), k + gk = xs.length ∧ v = .int .i64 k ∧ CI xs w w1 g cap sp k wr ys)
    case atStart => exact ⟨0, xs, by omega, rfl, H0.out⟩
    case round =>
      obtain ⟨k, ys, hkg, rfl, hci⟩ := hrel
      have HCI := Lib.hid hci
      have HK := Lib.hid hkg
      clear hci H0
      cases gk with
      | zero =>
        obtain rfl : k = xs.length := by omega
        clear hkg
        go_wp2
        go_ret
        have hl := sameLen HCI.out.same
        obtain ⟨hbg, hnc, hcm, hcs⟩ := HG.out
        refine ⟨_, ys, rfl, HCI.out.same, ?_, ⟨w1.heap.size, HB1.out.size, fun g' n c e => by
          have e' : Value.slice (some ⟨g, 0, none⟩) xs.length cap = Value.slice (some ⟨g', 0, none⟩) n c := e
          simp only [Value.slice.injEq, Option.some.injEq, Addr.mk.injEq, and_true] at e'
          have := HGL.out
          omega, fun y hy => ?_⟩, HCI.out.b0⟩
        · rw [← hl]
          exact row_ownF hbg HCI.out.row (by rw [hl]; exact hnc) hcm (by rw [← hcs, List.length_append, List.length_append, flat_len gF_len, flat_len gF_len, hl])
        · obtain ⟨j, hj⟩ := List.mem_iff_getElem?.1 hy
          have hjl := (List.getElem?_eq_some_iff.1 hj).1
          obtain ⟨h1, h2⟩ := HCI.out.new j y (by omega) hj
          exact ⟨h1, h2⟩
      | succ gk =>
        have hlt : k < xs.length := by omega
        have hl := sameLen HCI.out.same
        have e3 : decide ((k : Int) < (xs.length : Int)) = true := decide_eq_true (by omega)
        obtain ⟨y, hy⟩ : ∃ y, ys[k]? = some y := ⟨_, List.getElem?_eq_getElem (by omega)⟩
        have hxy : xs[k]? = some y := by rw [← HCI.out.old k (Nat.le_refl _)]; exact hy
        have hload := load_item_msg (x := y) (row_item HCI.out.row hy)
        have hpl : PL wr wr.heap.size y.a y.f.m.props := ((HS.out.2 y (List.mem_of_getElem? hxy)).below HCI.out.b0).more HCI.out.b0.size
        have hcall := HM.out y.f.m y.a y.c wr hpl (HP.out y (List.mem_of_getElem? hxy))
        have HLD := Lib.hid hload
        have HCA := Lib.hid hcall
        have HY := Lib.hid hy
        have j1 : (0 : Int) ≤ (k : Int) := by omega
        have j2 : (k : Int) < (xs.length : Int) := by omega
        clear hload hcall hy hxy hpl hl hkg
        go_wp2_with first
          | (refine wpList_load_v (by rfl) 30 _ rfl ⟨g, k * 11 + 2, none⟩ (by simp [Act.eval, Act.put]) _ HLD.out ?_)
        refine HCA.out.mono ?_
        rintro e w2 ⟨a2, c2, rfl, hpl2, hnew2, hb2⟩
        have hrow2 : BK 60 w2 g (ys.flatMap gF ++ sp) := HCI.out.row.step hb2
        have HROW := Lib.hid hrow2
        have HPL2 := Lib.hid hpl2
        have HNEW := Lib.hid hnew2
        have HB2 := Lib.hid hb2
        have hfit : k * 11 + 2 + 9 ≤ (ys.flatMap gF ++ sp).length := by
          rw [List.length_append, flat_len gF_len, sameLen HCI.out.same]
          omega
        clear hrow2 hpl2 hnew2 hb2 HLD HCA
        go_wp2_with first
          | (refine wpList_store_in (by rfl) 30 (.tmp 21) (.tmp 19) rfl rfl g (k * 11 + 2) 9 (by simp [Act.eval]) (msgV y.f.m a2 c2) rfl 60 (ys.flatMap gF ++ sp) (msgC y.f.m a2 c2) HROW.out rfl rfl msgSize hfit (msgC_one _ _ _) ?_; intro w3 hM hP; have M3 := Lib.hid hM; have P3 := Lib.hid hP; clear hM hP)
        go_roundg gk
        case measure => omega
        case rel =>
          refine ⟨k + 1, ys.set k ⟨y.f, a2, c2⟩, by have := HK.out; omega, by go_num, ?_⟩
          have hput := put_item HY.out y.f.m a2 c2 sp
          obtain ⟨hbg, hnc, hcm, hcs⟩ := HG.out
          have hz2 := HB2.out.size
          have hz1 := HCI.out.b1
          have hz3 := P3.out.size
          have hgl := HGL.out
          refine ⟨?_, by rw [← hput]; exact M3.out, fun j z hj hz => ?_, fun j hj => ?_, P3.out.below (stepB HCI.out.b0 HB2.out) hbg, by omega⟩
          · rw [List.map_set, HCI.out.same]
            have : (xs.map FE.f)[k]? = some y.f := by rw [← HCI.out.same, List.getElem?_map, HY.out]; rfl
            have hlk := (List.getElem?_eq_some_iff.1 this)
            obtain ⟨hk, e⟩ := hlk
            conv => lhs; rw [← e]
            exact List.set_getElem_self hk
          · rw [List.getElem?_set] at hz
            split at hz
            · next e =>
              split at hz
              · obtain rfl := Option.some.inj hz
                refine ⟨?_, fun b o e => Nat.le_trans hz1 (HNEW.out b o e)⟩
                rw [hz3]
                exact PL.put HPL2.out P3.out (fun b o e => by have := HNEW.out b o e; omega)
              · cases hz
            · next hne =>
              obtain ⟨h1, h2⟩ := HCI.out.new j z (by omega) hz
              refine ⟨?_, h2⟩
              rw [hz3]
              exact PL.put (h1.step HB2.out) P3.out (fun b o e => by have := h2 b o e; omega)
          · rw [List.getElem?_set_ne (by omega)]
            exact HCI.out.old j (by omega)
end Go.Proofs.YtjpikgphfhjilaaGreatDoor
