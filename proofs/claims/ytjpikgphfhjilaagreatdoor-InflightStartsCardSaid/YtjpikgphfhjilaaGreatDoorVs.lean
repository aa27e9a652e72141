/-
  What Resend and Messages of inflight answer: the packets to send again, the messages in flight. Conditions: the window reads as data; few items, with few properties.
  What Messages of inflight answers: the messages in flight. Conditions: the window reads as data; few items, with few properties.
-/
import Derived.Test.YtjpikgphfhjilaaGreatDoorWn
namespace Go.Proofs.YtjpikgphfhjilaaGreatDoor
open Go.RowKit
open S2 (BK Put)

theorem app_own {P : Program} (w : World) (base : Nat) (t tx ty e : TypeId) (i : TypeInfo) (z : Value) (size bytes : Nat) (ht : P.underlying t = some (.slice e)) (hi : P.info? e = some i) (hz : i.zero = some z)
    (hsize : i.size = size) (hby : i.bytes = bytes) (hzs : z.cells.size = size) (_hsz : 0 < size)
    (v : Value) (n : Nat) (xs : List Value) (hown : w.ownsRow base e size v n xs) (x : Value) (m : Nat) (news : List Value) (hs : Src P size tx x m news w)
    (h63 : n + m ≤ maxLen) (hbytes : (n + m) * bytes ≤ 140737488355328) (hbase : base ≤ w.heap.size) :
    ∃ v' w', (Builtin.append_ #[t, tx] ty #[v, x]).run P w = .ok v' w' ∧ w'.ownsRow base e size v' (n + m) (xs ++ news) ∧ w.grownBy w' v.ownBlock ∧ ∀ q n' c', v' = .slice (some ⟨q, 0, none⟩) n' c' → (∃ n'' c'', v = .slice (some ⟨q, 0, none⟩) n'' c'') ∨ w.heap.size ≤ q := by
  subst hsize
  subst hby
  have hl := hs.newsLen
  have hsmall : n + m ≤ 9223372036854775807 := by simp only [maxLen] at h63; omega
  have hlen : (xs ++ news).length = (n + m) * i.size := by rw [List.length_append, hown.1, hl, Nat.add_mul]
  have grown : ∀ (old : Nat), old < n + m → ∀ (row : Option Nat),
      (w.drew.alloc (.cells ((xs ++ news).toArray ++ Builtin.zeroCells z.cells (grownCap w (n + m) old e - (n + m))) e)).ownsRow base e i.size
        (.slice (some ⟨w.heap.size, 0, none⟩) (n + m) (grownCap w (n + m) old e)) (n + m) (xs ++ news) ∧
      w.grownBy (w.drew.alloc (.cells ((xs ++ news).toArray ++ Builtin.zeroCells z.cells (grownCap w (n + m) old e - (n + m))) e)) row := by
    intro old ho row
    have hge := grownCap_ge w (n + m) old e
    have hcm : grownCap w (n + m) old e ≤ maxLen := grownCap_le_maxLen w (n + m) old e h63
    refine ⟨⟨hlen, .inr ⟨w.heap.size, _, _, rfl, hbase, heap_alloc_new w.drew _, hge, hcm, ?_, ?_⟩⟩, ⟨rfl, rfl, rfl, by simp, fun k hk _ => heap_alloc_old w.drew _ hk⟩⟩
    · simp only [Array.size_append, List.size_toArray, size_zeroCells, hzs, hlen]
      rw [← Nat.add_mul]
      congr 1
      omega
    · simp only [Array.toList_append]
      rw [← hlen]
      exact List.take_left
  rcases hown.2 with ⟨rfl, rfl⟩ | ⟨g, cap, cur, rfl, hbg, hg, hnc, hcm, hcs, htake⟩
  · have hx : xs = [] := List.eq_nil_of_length_eq_zero (by simpa using hown.1)
    subst hx
    by_cases hm : m = 0
    · subst hm
      have hn : news = [] := List.eq_nil_of_length_eq_zero (by simpa using hl)
      subst hn
      refine ⟨.slice none 0 0, w, ?_, World.ownsRow_nil w base e i.size, ⟨rfl, rfl, rfl, Nat.le_refl _, fun _ _ _ => rfl⟩, fun q n' c' e' => by cases e'⟩
      have hl2 := hs.len
      have hc2 := hs.cells
      rcases hs.kind with ⟨e', hk⟩ | hk <;> simp [Builtin.append_, run_underlying ht, run_underlying hk, sizeOf, typeInfo, hi, hl2, hc2]
    · have hr := run_append_grow_src (P := P) w t tx ty e i z ht hi hz none 0 0 [] (run_firstCells_none w.drew i.size 0 0 0) x m news hs (by omega) (by omega) (growslice_fits (by omega) hbytes)
      have hgr := grown 0 (by omega) (Value.ownBlock (.slice none 0 0))
      exact ⟨_, _, hr, hgr.1, hgr.2, fun q n' c' e' => .inr (by simp only [Value.slice.injEq, Option.some.injEq, Addr.mk.injEq, and_true] at e'; omega)⟩
  · by_cases hroom : n + m ≤ cap
    · have hfit : n * i.size + news.length ≤ cur.size := by rw [hl, hcs, ← Nat.add_mul]; exact Nat.mul_le_mul_right _ hroom
      have hst := run_storeCells_at P g (n * i.size) e news 0 cur w hg (by simpa using hfit) hs.one
      simp only [Nat.add_zero] at hst
      have hl2 := hs.len
      have hc2 := hs.cells
      have hr : (Builtin.append_ #[t, tx] ty #[.slice (some ⟨g, 0, none⟩) n cap, x]).run P w =
          .ok (.slice (some ⟨g, 0, none⟩) (n + m) cap) (w.setRow g (cur.toList.take (n * i.size) ++ news ++ cur.toList.drop (n * i.size + news.length)).toArray) := by
        rcases hs.kind with ⟨e', hk⟩ | hk <;> simp [Builtin.append_, run_underlying ht, run_underlying hk, sizeOf, typeInfo, hi, hl2, hroom, hc2, Addr.add_lit, hst]
      refine ⟨_, _, hr, ⟨hlen, .inr ⟨g, cap, _, rfl, hbg, setRow_heap w g cur _ e _ hg, hroom, hcm, ?_, ?_⟩⟩, ⟨rfl, rfl, rfl, by simp, fun k _ hk => setRow_other w g k _ (fun e => hk (by simp [Value.ownBlock, e]))⟩, fun q n' c' e' => .inl ⟨n, cap, by simp only [Value.slice.injEq, Option.some.injEq, Addr.mk.injEq, and_true] at e'; rw [e'.1]⟩⟩
      · simp only [List.size_toArray, List.length_append, List.length_take, List.length_drop, Array.length_toList]
        omega
      · rw [htake, ← hlen]
        exact List.take_left
    · have holds : ∀ j u, xs[j]? = some u → w.drew.cell? ((⟨g, 0, none⟩ : Addr).add j) = some u := by
        intro j u hj
        have := hown.cells (g := g) rfl j u hj
        simpa using this
      have hr := run_append_grow_src (P := P) w t tx ty e i z ht hi hz (some ⟨g, 0, none⟩) n cap xs (run_firstCells_some w.drew i.size n ⟨g, 0, none⟩ n cap xs hown.1 holds) x m news hs (by omega) (by omega) (growslice_fits (by omega) hbytes)
      have hgr := grown cap (by omega) (Value.ownBlock (.slice (some ⟨g, 0, none⟩) n cap))
      exact ⟨_, _, hr, hgr.1, hgr.2, fun q n' c' e' => .inr (by simp only [Value.slice.injEq, Option.some.injEq, Addr.mk.injEq, and_true] at e'; omega)⟩


/-- a list of structs that a call builds for itself, each with properties in memory of their own -/
def Lst {α : Type} (e : TypeId) (g : α → List Value) (k : Nat) (ad : α → Option Addr) (ps : α → List PR) (B : Nat) (w : World) (v : Value) (xs : List α) : Prop := OwnG e g k w B v xs ∧ ∀ x ∈ xs, PL w w.heap.size (ad x) (ps x) ∧ (∀ b o, ad x = some ⟨b, o, none⟩ → 0 < (ps x).length → ∀ q n c, v = .slice (some ⟨q, 0, none⟩) n c → b ≠ q) ∧ NewL B (ad x)
section
variable {α : Type} {e : TypeId} {g : α → List Value} {k : Nat} {ad : α → Option Addr} {ps : α → List PR} {B : Nat} {w w' : World} {v : Value} {xs : List α}
theorem Lst.nil : Lst e g k ad ps B w (.slice none 0 0) [] := ⟨OwnG.nil _ _, fun x hx => by cases hx⟩
theorem Lst.step (h : Lst e g k ad ps B w v xs) (hb : Below w.heap.size w w') : Lst e g k ad ps B w' v xs := ⟨h.1.step hb, fun x hx => ⟨(h.2 x hx).1.step hb, (h.2 x hx).2⟩⟩
theorem ownG_lt (h : OwnG e g k w B v xs) (q n c : Nat) (hv : v = .slice (some ⟨q, 0, none⟩) n c) : B ≤ q ∧ q < w.heap.size := by
  unfold OwnG at h
  rcases h.2 with ⟨rfl, _⟩ | ⟨q', cap, cur, rfl, hb, hq, _⟩
  · cases hv
  · simp only [Value.slice.injEq, Option.some.injEq, Addr.mk.injEq, and_true] at hv
    have := (Array.getElem?_eq_some_iff.1 hq).1
    omega
theorem Lst.ret (hg : ∀ x, (g x).length = k) (h : Lst e g k ad ps B w v xs) : ∃ A c, v = .slice A xs.length c ∧ xs.length ≤ c ∧ NewL B A ∧ GL g k w w.heap.size A xs ∧ ∀ x ∈ xs, PL w w.heap.size (ad x) (ps x) ∧ NewL B (ad x) := by
  obtain ⟨A, c, hv, hc, hn, hgl⟩ := OwnG.retB hg h.1
  exact ⟨A, c, hv, hc, hn, hgl w (Nat.le_refl _) (fun _ _ => rfl), fun x hx => ⟨(h.2 x hx).1, (h.2 x hx).2.2⟩⟩
theorem wpList_lst {P : Program} {ops : Array Oper} {rest : List Oper} {o : Oper} {a : Act} {Q : Exit → Act → World → Prop} (hg : ∀ x, (g x).length = k) (h1 : ∀ x, ∀ u ∈ g x, u.oneCell' = true) (hk0 : 0 < k) (wr : World) (hgd : o.guard = none) (s x : Operand) (t : TypeId)
    (ho : o.op = .call { callee := .builtin .append, args := #[s, x], argTypes := #[t, t] }) (z : Value) (bytes : Nat) (ht : P.underlying t = some (.slice e))
    (hi : (P.info? e).map (fun i => (i.zero, i.size, i.bytes)) = some (some z, k, bytes)) (hzs : z.cells.size = k) (y : α) (hs : a.eval s = v) (hown : Lst e g k ad ps B wr v xs)
    (hx : a.eval x = .slice (some ⟨wr.heap.size, 0, none⟩) 1 1) (hp : PL wr wr.heap.size (ad y) (ps y)) (hnw : NewL B (ad y)) (hoff : ∀ b o, ad y = some ⟨b, o, none⟩ → 0 < (ps y).length → ∀ q n c, v = .slice (some ⟨q, 0, none⟩) n c → b ≠ q) (w0 : World) (hb : Below B w0 wr) (hB : B ≤ wr.heap.size) (hn : (xs.length + 1) * bytes ≤ 140737488355328) (hby : 0 < bytes)
    (h : ∀ v' w', Lst e g k ad ps B w' v' (xs ++ [y]) → Below B w0 w' → B ≤ w'.heap.size → wpList P ops Q rest (a.put o.dst v') w') : wpList P ops Q (o :: rest) a (wr.alloc (.cells (g y).toArray e)) :=
  wpList_plain hgd fun _ hK => by
    obtain ⟨i, hi, hz, hz1, hz2⟩ := info_parts hi
    have hn2 : xs.length + 1 ≤ 140737488355328 := Nat.le_trans (Nat.le_mul_of_pos_right _ hby) hn
    have hst := S2.below_new wr (.cells (g y).toArray e)
    have hown1 := hown.step hst
    obtain ⟨v', w', hr, h2, h3, h4⟩ := app_own (P := P) (wr.alloc (.cells (g y).toArray e)) B t t o.type e i z k bytes ht hi hz hz1 hz2 hzs hk0 v xs.length (xs.flatMap g) hown1.1 _ 1 ([y].flatMap g) (srcG_one hg h1 ht wr y) (by unfold maxLen; omega) hn (by simp; omega)
    unfold Oper.wp execOp
    simp only [ho, resolve, invoke, builtin, Sem.run_bind, Sem.run_pure, Result.andThen_ok, List.map_toArray, List.map_cons, List.map_nil, hs, hx, hr]
    have keep : ∀ (A : Option Addr) (p : List PR), PL wr wr.heap.size A p → (∀ b o, A = some ⟨b, o, none⟩ → 0 < p.length → ∀ q n c, v = .slice (some ⟨q, 0, none⟩) n c → b ≠ q) → PL w' w'.heap.size A p ∧ (∀ b o, A = some ⟨b, o, none⟩ → 0 < p.length → ∀ q n c, v' = .slice (some ⟨q, 0, none⟩) n c → b ≠ q) := fun A p hpl hof => by
      have hpl1 := hpl.step hst
      refine ⟨fun hn => ?_, fun b o' e' hn q n c hv => ?_⟩
      · obtain ⟨b, o', e', hb', hc⟩ := hpl1 hn
        refine ⟨b, o', e', Nat.lt_of_lt_of_le hb' h3.size, fun j x' i' u hx' hu => ?_⟩
        refine h3.cell (hc j x' i' u hx' hu) (fun e2 => ?_)
        have e2' : v.ownBlock = some b := e2.symm
        have hw := hown1.1
        unfold OwnG at hw
        rcases hw.2 with ⟨rfl, _⟩ | ⟨q', cap, cur, rfl, _⟩
        · simp [Value.ownBlock] at e2'
        · simp only [Value.ownBlock, Option.some.injEq] at e2'
          exact hof b o' e' hn q' _ _ rfl e2'.symm
      · rcases h4 q n c hv with ⟨n'', c'', hv'⟩ | hq
        · exact hof b o' e' hn q _ _ hv'
        · have := hpl.lt hn b o' e'
          simp at hq
          omega
    refine hK _ _ (h v' w' ⟨?_, fun x' hx' => ?_⟩ ((hb.alloc hB _).grown h3 (by simp; omega) (fun j hj => (World.ownsRow.lt hown1.1 j hj).1)) (by have := h3.size; simp at this; omega))
    · unfold OwnG
      simpa [List.flatMap_append] using h2
    · rcases List.mem_append.1 hx' with hx' | hx'
      · obtain ⟨p1, p2, p3⟩ := hown.2 x' hx'
        have := keep _ _ p1 p2
        exact ⟨this.1, this.2, p3⟩
      · simp at hx'
        subst hx'
        have := keep _ _ hp hoff
        exact ⟨this.1, this.2, hnw⟩
end

theorem pktInfo : (Tryz.prog.info? 39).map (fun i => (i.zero, i.size, i.bytes)) = some (some (.agg zeroPk.toArray), 34, (Tryz.prog.bytesOf 39)) := by kernel_rfl
theorem pktBytes : 0 < Tryz.prog.bytesOf 39 ∧ Tryz.prog.bytesOf 39 ≤ 1000 := by decide +kernel
/-- packets that a call answers, in memory of their own -/
def RetKs (l : List Pkt) (W : World) (e : Ending) (w' : World) : Prop := ∃ A c ks, e = .returned (.slice A ks.length c) ∧ ks.map Prod.fst = l ∧ KS w' w'.heap.size A ks ∧ NewL W.heap.size A ∧ Below W.heap.size W w'
abbrev LstK (B : Nat) (w : World) (v : Value) (ks : List (Pkt × PA)) : Prop := Lst 39 gK 34 (fun z => z.2.m) (fun z => z.1.msg.props) B w v ks

theorem again_plain (x : Fl) (a : PA) (w : World) (B : Nat) (h : PL w B a.m (againP x).msg.props) : KP w B (againP x, a) := by
  unfold againP at h ⊢
  split
  · exact KP.rel _ _ _ _
  · next hs => rw [if_neg hs] at h; exact KP.pub h

set_option maxRecDepth 20000 in
set_option maxHeartbeats 2000000 in
theorem resend_any (L : Int) (A : Option Addr) (c : Nat) (xs : List FE) (A2 : Option Addr) (c2 : Nat) (X : List Int) (l : Int) (w : World) (hsl : FI w w.heap.size A xs) (hn : xs.length ≤ 100000) (hp : ∀ x ∈ xs, x.f.m.props.length ≤ 100000) :
    Calls Tryz.prog 14 #[wv L A c xs A2 c2 X l] w (RetKs ((xs.map FE.f).map againP) w) := by
  have HAG := Lib.hid (fun x w1 h hl => again_any x w1 h hl)
  have HS := Lib.hid (hsl.step (S2.below_new w (.cells (wcs L A c xs A2 c2 X l).toArray 27)))
  have HB := Lib.hid (S2.below_new w (.cells (wcs L A c xs A2 c2 X l).toArray 27))
  have HM : Hid (BK 27 (w.alloc (.cells (wcs L A c xs A2 c2 X l).toArray 27)) w.heap.size (wcs L A c xs A2 c2 X l)) := Lib.hid (BK.new w _ _)
  have HP := Lib.hid hp
  obtain ⟨RR, hRR⟩ : ∃ RR, (xs.map FE.f).map againP = RR := ⟨_, rfl⟩
  rw [hRR]
  have HRR := Lib.hid hRR
  clear hsl hp hRR
  go_enter Tryz.func14, Tryz.ntmps14
  go_upto_region 2 with fail
  refine name_world (C := fun w1 => Code.wp _ _ _ _ w1) (w.alloc (.cells (wcs L A c xs A2 c2 X l).toArray 27)) ?_
  generalize w.alloc (.cells (wcs L A c xs A2 c2 X l).toArray 27) = w0 at HS HB HM
  intro w1 hw1
  subst hw1
  have d1 := HM.out.cell 1 rfl
  go_wp2_with fail
  clear d1
  go_loopg [3, 8] xs.length (fun g u3 v wr => ∃ (k : Nat) (ks : List (Pkt × PA)), k + g = xs.length ∧ v = .int .i64 k ∧ ks.map Prod.fst = ((xs.map FE.f).take k).map againP ∧ LstK w1.heap.size wr u3 ks ∧ (∀ z ∈ ks, ∃ x a, z = (againP x, a)) ∧ Below w1.heap.size w1 wr ∧ w1.heap.size ≤ wr.heap.size)
  case atStart => exact ⟨0, [], by omega, rfl, by simp, Lst.nil, (fun z hz => by cases hz), Below.refl _ _, Nat.le_refl _⟩
  case round =>
    obtain ⟨k, ks, hkg, rfl, hks, hlst, hsh, hb0, hsz⟩ := hrel
    have HKS := Lib.hid hks
    have HL := Lib.hid hlst
    have HSH := Lib.hid hsh
    have HB0 := Lib.hid hb0
    have HK := Lib.hid hkg
    have HSZ := Lib.hid hsz
    have hkl : ks.length = k := by
      have := congrArg List.length hks
      simp only [List.length_map, List.length_take] at this
      omega
    have HKL := Lib.hid hkl
    clear hks hlst hsh hb0 hsz hkl
    cases gk with
    | zero =>
      obtain rfl : k = xs.length := by omega
      obtain ⟨A3, c3, rfl, hc3, hn3, hgl3, hpl3⟩ := HL.out.ret gK_len
      have HGL := Lib.hid hgl3
      have HPL := Lib.hid hpl3
      have HN3 := Lib.hid hn3
      clear hkg hc3 hn3 hgl3 hpl3
      go_wp2
      go_ret
      refine ⟨A3, c3, ks, rfl, by rw [← HRR.out, HKS.out, List.take_of_length_le (by rw [List.length_map]; exact Nat.le_refl _)], ⟨HGL.out, fun z hz => ?_⟩, fun b o e => by have := HN3.out b o e; have := HB.out.size; omega, stepB HB.out HB0.out⟩
      obtain ⟨x, a, rfl⟩ := HSH.out z hz
      exact again_plain x a _ _ (HPL.out _ hz).1
    | succ g =>
      have hlt : k < xs.length := by omega
      have e3 : decide ((k : Int) < (xs.length : Int)) = true := decide_eq_true (by omega)
      obtain ⟨x, hx⟩ : ∃ x, xs[k]? = some x := ⟨_, List.getElem?_eq_getElem hlt⟩
      obtain ⟨b, o, hA, hbB, hc, hpl⟩ := (HS.out.step HB0.out).at_ hx
      have HLD := Lib.hid (load_item hc)
      have HCA := Lib.hid (HAG.out x wr hpl (HP.out x (List.mem_of_getElem? hx)))
      have HXF : Hid ((xs.map FE.f)[k]? = some x.f) := Lib.hid (by rw [List.getElem?_map, hx]; rfl)
      subst hA
      have d1 := (HM.out.step HB0.out).cell 1 rfl
      have j1 : (0 : Int) ≤ (k : Int) := by omega
      have j2 : (k : Int) < (xs.length : Int) := by omega
      have hlk : k ≤ 100000 := by omega
      clear hx hc hpl hbB hkg
      go_wp2_with first
        | (refine wpList_load_v (by rfl) 60 _ rfl ⟨b, o + k * 11, none⟩ (by simp [Act.eval, Act.put]) _ HLD.out ?_)
      refine HCA.out.mono ?_
      rintro e w2 ⟨a2, c4, rfl, hpl2, hnew2, hb2⟩
      have HL2 := Lib.hid (HL.out.step hb2)
      have HP2 := Lib.hid hpl2
      have HN2 := Lib.hid hnew2
      have HB2 := Lib.hid (stepB HB0.out hb2)
      have HZ2 := Lib.hid hb2.size
      have HQL : Hid (∀ q n c, u3 = .slice (some ⟨q, 0, none⟩) n c → q < wr.heap.size) := Lib.hid (fun q n c hv => (ownG_lt HL.out.1 q n c hv).2)
      clear hb2 hpl2 hnew2 HLD HCA HL d1
      simp only [pkV, pkC]
      go_wp2_with first
        | (at_builtin; refine wpList_lst gK_len gK_one (by decide) w2 rfl _ _ 48 rfl (.agg zeroPk.toArray) (Tryz.prog.bytesOf 39) Tryz.underlying48 pktInfo rfl (againP x.f, pubA a2 c4) rfl HL2.out (by rfl) HP2.out (fun b o e => by have := HN2.out b o e; have := HSZ.out; omega) (fun b o e _ q n c hv => by have := HN2.out b o e; have := HQL.out q n c hv; omega) w1 HB2.out (by have := HSZ.out; have := HZ2.out; omega) (Nat.le_trans (Nat.mul_le_mul (show ks.length + 1 ≤ 100001 by rw [HKL.out]; omega) pktBytes.2) (by decide)) pktBytes.1 ?_; intro v3 w3 hl3 hb3 hs3)
      have HL3 := Lib.hid hl3
      have HB3 := Lib.hid hb3
      have HS3 := Lib.hid hs3
      clear hl3 hb3 hs3
      go_roundg g
      case measure => omega
      case rel => exact ⟨k + 1, ks ++ [(againP x.f, pubA a2 c4)], by have := HK.out; omega, by go_num, by rw [List.map_append, HKS.out, List.take_add_one, HXF.out]; simp, HL3.out, (fun z hz => by
        rcases List.mem_append.1 hz with hz | hz
        · exact HSH.out z hz
        · simp at hz; exact ⟨x.f, pubA a2 c4, hz⟩), HB3.out, HS3.out⟩
end Go.Proofs.YtjpikgphfhjilaaGreatDoor
namespace Go.Proofs.YtjpikgphfhjilaaGreatDoor
open Go.RowKit
open S2 (BK Put)

/-- a message and where its properties lie -/
structure ME where
  m : Msg
  a : Option Addr
  c : Nat
def gM (z : ME) : List Value := msgC z.m z.a z.c
theorem gM_len (z : ME) : (gM z).length = 9 := rfl
theorem gM_one (z : ME) : ∀ u ∈ gM z, u.oneCell' = true := msgC_one _ _ _
theorem msgInfo : (Tryz.prog.info? 30).map (fun i => (i.zero, i.size, i.bytes)) = some (some (.agg (msgC Msg.zero none 0).toArray), 9, 112) := by kernel_rfl
/-- the slice with this address reads as these messages, below block B -/
def MS (w : World) (B : Nat) (A : Option Addr) (xs : List ME) : Prop := GL gM 9 w B A xs ∧ ∀ x ∈ xs, PL w B x.a x.m.props
theorem MS.step {w w' : World} {A : Option Addr} {xs : List ME} (h : MS w w.heap.size A xs) (hb : Below w.heap.size w w') : MS w' w'.heap.size A xs := ⟨h.1.step hb, fun x hx => (h.2 x hx).step hb⟩
theorem MS.at_ {w : World} {B : Nat} {A : Option Addr} {xs : List ME} (h : MS w B A xs) {j : Nat} {x : ME} (hx : xs[j]? = some x) :
    ∃ b o, A = some ⟨b, o, none⟩ ∧ b < B ∧ (∀ i v, (gM x)[i]? = some v → w.cell? ⟨b, o + j * 9 + i, none⟩ = some v) ∧ PL w B x.a x.m.props := by
  obtain ⟨b, o, e, hb, hc⟩ := h.1 (Nat.lt_of_le_of_lt (Nat.zero_le _) (List.getElem?_eq_some_iff.1 hx).1)
  exact ⟨b, o, e, hb, fun i v hv => hc j x i v hx hv, h.2 x (List.mem_of_getElem? hx)⟩
theorem load_me {w : World} {b o : Nat} {x : ME} (hc : ∀ i v, (gM x)[i]? = some v → w.cell? ⟨b, o + i, none⟩ = some v) : (loadVar 30 ⟨b, o, none⟩).run Tryz.prog w = .ok (msgV x.m x.a x.c) w :=
  run_load_cells w b o (gM x) 30 _ hc Tryz.underlying30 rfl msgSize
/-- messages that a call answers, in memory of their own -/
def RetMs (l : List Msg) (W : World) (e : Ending) (w' : World) : Prop := ∃ A c ks, e = .returned (.slice A ks.length c) ∧ ks.map ME.m = l ∧ MS w' w'.heap.size A ks ∧ NewL W.heap.size A ∧ Below W.heap.size W w'
abbrev LstM (B : Nat) (w : World) (v : Value) (ks : List ME) : Prop := Lst 30 gM 9 (fun z => z.a) (fun z => z.m.props) B w v ks

set_option maxRecDepth 20000 in
set_option maxHeartbeats 2000000 in
theorem messages_any (L : Int) (A : Option Addr) (c : Nat) (xs : List FE) (A2 : Option Addr) (c2 : Nat) (X : List Int) (l : Int) (w : World) (hsl : FI w w.heap.size A xs) (hn : xs.length ≤ 100000) (hp : ∀ x ∈ xs, x.f.m.props.length ≤ 100000) :
    Calls Tryz.prog 16 #[wv L A c xs A2 c2 X l] w (RetMs ((xs.map FE.f).map Fl.m) w) := by
  have HAG := Lib.hid (fun m a c w1 h hl => cloneMessage_any m a c w1 h hl)
  have HS := Lib.hid (hsl.step (S2.below_new w (.cells (wcs L A c xs A2 c2 X l).toArray 27)))
  have HB := Lib.hid (S2.below_new w (.cells (wcs L A c xs A2 c2 X l).toArray 27))
  have HM : Hid (BK 27 (w.alloc (.cells (wcs L A c xs A2 c2 X l).toArray 27)) w.heap.size (wcs L A c xs A2 c2 X l)) := Lib.hid (BK.new w _ _)
  have HP := Lib.hid hp
  obtain ⟨RR, hRR⟩ : ∃ RR, (xs.map FE.f).map Fl.m = RR := ⟨_, rfl⟩
  rw [hRR]
  have HRR := Lib.hid hRR
  clear hsl hp hRR
  go_enter Tryz.func16, Tryz.ntmps16
  go_upto_region 2 with fail
  refine name_world (C := fun w1 => Code.wp _ _ _ _ w1) (w.alloc (.cells (wcs L A c xs A2 c2 X l).toArray 27)) ?_
  generalize w.alloc (.cells (wcs L A c xs A2 c2 X l).toArray 27) = w0 at HS HB HM
  intro w1 hw1
  subst hw1
  have d1 := HM.out.cell 1 rfl
  go_wp2_with fail
  clear d1
  go_loopg [3, 8] xs.length (fun g u3 v wr => ∃ (k : Nat) (ks : List ME), k + g = xs.length ∧ v = .int .i64 k ∧ ks.map ME.m = ((xs.map FE.f).take k).map Fl.m ∧ LstM w1.heap.size wr u3 ks ∧ Below w1.heap.size w1 wr ∧ w1.heap.size ≤ wr.heap.size)
  case atStart => exact ⟨0, [], by omega, rfl, by simp, Lst.nil, Below.refl _ _, Nat.le_refl _⟩
  case round =>
    obtain ⟨k, ks, hkg, rfl, hks, hlst, hb0, hsz⟩ := hrel
    have HKS := Lib.hid hks
    have HL := Lib.hid hlst
    have HB0 := Lib.hid hb0
    have HK := Lib.hid hkg
    have HSZ := Lib.hid hsz
    have hkl : ks.length = k := by
      have := congrArg List.length hks
      simp only [List.length_map, List.length_take] at this
      omega
    have HKL := Lib.hid hkl
    clear hks hlst hb0 hsz hkl
    cases gk with
    | zero =>
      obtain rfl : k = xs.length := by omega
      obtain ⟨A3, c3, rfl, hc3, hn3, hgl3, hpl3⟩ := HL.out.ret gM_len
      have HGL := Lib.hid hgl3
      have HPL := Lib.hid hpl3
      have HN3 := Lib.hid hn3
      clear hkg hc3 hn3 hgl3 hpl3
      go_wp2
      go_ret
      refine ⟨A3, c3, ks, rfl, by rw [← HRR.out, HKS.out, List.take_of_length_le (by rw [List.length_map]; exact Nat.le_refl _)], ⟨HGL.out, fun z hz => (HPL.out _ hz).1⟩, fun b o e => by have := HN3.out b o e; have := HB.out.size; omega, stepB HB.out HB0.out⟩
    | succ g =>
      have hlt : k < xs.length := by omega
      have e3 : decide ((k : Int) < (xs.length : Int)) = true := decide_eq_true (by omega)
      obtain ⟨x, hx⟩ : ∃ x, xs[k]? = some x := ⟨_, List.getElem?_eq_getElem hlt⟩
      obtain ⟨b, o, hA, hbB, hc, hpl⟩ := (HS.out.step HB0.out).at_ hx
      have HLD := Lib.hid (load_item_msg hc)
      have HCA := Lib.hid (HAG.out x.f.m x.a x.c wr hpl (HP.out x (List.mem_of_getElem? hx)))
      have HXF : Hid ((xs.map FE.f)[k]? = some x.f) := Lib.hid (by rw [List.getElem?_map, hx]; rfl)
      subst hA
      have d1 := (HM.out.step HB0.out).cell 1 rfl
      have j1 : (0 : Int) ≤ (k : Int) := by omega
      have j2 : (k : Int) < (xs.length : Int) := by omega
      have hlk : k ≤ 100000 := by omega
      clear hx hc hpl hbB hkg
      go_wp2_with first
        | (refine wpList_load_v (by rfl) 30 _ rfl ⟨b, o + k * 11 + 2, none⟩ (by simp [Act.eval, Act.put]) _ HLD.out ?_)
      refine HCA.out.mono ?_
      rintro e w2 ⟨a2, c4, rfl, hpl2, hnew2, hb2⟩
      have HL2 := Lib.hid (HL.out.step hb2)
      have HP2 := Lib.hid hpl2
      have HN2 := Lib.hid hnew2
      have HB2 := Lib.hid (stepB HB0.out hb2)
      have HZ2 := Lib.hid hb2.size
      have HQL : Hid (∀ q n c, u3 = .slice (some ⟨q, 0, none⟩) n c → q < wr.heap.size) := Lib.hid (fun q n c hv => (ownG_lt HL.out.1 q n c hv).2)
      clear hb2 hpl2 hnew2 HLD HCA HL d1
      simp only [msgV]
      go_wp2_with first
        | (at_builtin; refine wpList_lst gM_len gM_one (by decide) w2 rfl _ _ 53 rfl (.agg (msgC Msg.zero none 0).toArray) 112 Tryz.underlying53 msgInfo rfl (⟨x.f.m, a2, c4⟩ : ME) rfl HL2.out (by rfl) HP2.out (fun b o e => by have := HN2.out b o e; have := HSZ.out; omega) (fun b o e _ q n c hv => by have := HN2.out b o e; have := HQL.out q n c hv; omega) w1 HB2.out (by have := HSZ.out; have := HZ2.out; omega) (by rw [HKL.out]; omega) (by decide) ?_; intro v3 w3 hl3 hb3 hs3)
      have HL3 := Lib.hid hl3
      have HB3 := Lib.hid hb3
      have HS3 := Lib.hid hs3
      clear hl3 hb3 hs3
      go_roundg g
      case measure => omega
      case rel => exact ⟨k + 1, ks ++ [⟨x.f.m, a2, c4⟩], by have := HK.out; omega, by go_num, by rw [List.map_append, HKS.out, List.take_add_one, HXF.out]; simp, HL3.out, HB3.out, HS3.out⟩
end Go.Proofs.YtjpikgphfhjilaaGreatDoor
