/-
  What Texts answers, of the program and of the specification; Same of lists of texts. Conditions: position and limit fit an int; at most 2^40 bytes.
-/
import Derived.Test.YtijdfadmmloclaaFlags
namespace Go.Proofs.Ytijdfadmmloclaa
open Go.RowKit

def textsF : Nat → List UInt8 → Int → Int → List ByteArray → List ByteArray × Int × Int
  | 0, _, nx, _, acc => (acc, nx, 0)
  | n + 1, l, nx, limit, acc => if (textR l nx limit).2.2 ≠ 0 then ([], 0, (textR l nx limit).2.2) else textsF n l (textR l nx limit).2.1 limit (acc ++ [(textR l nx limit).1])
def textsR (l : List UInt8) (p limit : Int) : List ByteArray × Int × Int :=
  if (countR l p limit).2.2 ≠ 0 then ([], 0, (countR l p limit).2.2) else textsF (countR l p limit).1.toNat l (countR l p limit).2.1 limit []

theorem textR_ok {l : List UInt8} {p limit nx : Int} {s : ByteArray} (h : textR l p limit = (s, nx, 0)) : ∃ (k j : Nat), p = k ∧ nx = ((k + j : Nat) : Int) ∧ 1 ≤ j ∧ k + j ≤ l.length ∧ (s.size : Int) ≤ limit ∧ encT s = (l.drop k).take j := by
  unfold textR at h
  split at h
  · next h0 => simp only [Prod.mk.injEq] at h; omega
  · next h0 =>
    split at h
    · simp at h
    · next h1 =>
      generalize hr : countR l p limit = r at h h0 h1
      obtain ⟨n, nx', e⟩ := r
      simp only at h h0 h1
      obtain rfl : e = 0 := by omega
      obtain ⟨k, j, m, rfl, rfl, rfl, h2, h3, h4, h5, h6, h7⟩ := countR_ok hr
      simp only [Prod.mk.injEq, and_true, Int.toNat_natCast] at h
      obtain ⟨rfl, rfl⟩ := h
      have hT : ((l.drop (k + j)).take m).length = m := by rw [List.length_take, List.length_drop]; omega
      refine ⟨k, j + m, rfl, by omega, by omega, by omega, by rw [size_bs, hT]; exact h2, ?_⟩
      unfold encT
      rw [size_bs, hT, dl_bs, h7, ← List.drop_drop]
      rw [List.take_add]

def RetTs (r : List ByteArray × Int × Int) (W : World) (e : Ending) (w' : World) : Prop :=
  ∃ v, e = .returned (.tuple #[v, .int .i64 r.2.1, .int .i64 r.2.2]) ∧ Own 9 Value.string w' W.heap.size v r.1 ∧ Below W.heap.size W w'
theorem infoS : (Try.prog.info? 9).map (fun i => (i.zero, i.size, i.bytes)) = some (some (.string ByteArray.empty), 1, 16) := by kernel_rfl
theorem wpList_appS1 {ops : Array Oper} {rest : List Oper} {o : Oper} {a : Act} {Q : Exit → Act → World → Prop} (wr : World) (hgd : o.guard = none) (s x : Operand) (ho : o.op = .call { callee := .builtin .append, args := #[s, x], argTypes := #[30, 30] })
    (B : Nat) (v : Value) (xs : List ByteArray) (y : ByteArray) (hs : a.eval s = v) (hown : Own 9 Value.string wr B v xs) (hx : a.eval x = .slice (some ⟨wr.heap.size, 0, none⟩) 1 1) (w0 : World) (hb : Below B w0 wr) (hB : B ≤ wr.heap.size)
    (hn : xs.length ≤ 1099511627776) (h : ∀ v' w', Own 9 Value.string w' B v' (xs ++ [y]) → Below B w0 w' → B ≤ w'.heap.size → wpList Try.prog ops Q rest (a.put o.dst v') w') : wpList Try.prog ops Q (o :: rest) a (wr.alloc (.cells #[.string y] 9)) :=
  wpList_app _ hgd s x 30 30 ho (.string ByteArray.empty) 16 Try.underlying30 infoS rfl (by decide) B v xs [y] hs (hown.alloc _) _ hx 1 (src_one Try.underlying30 wr y _ rfl rfl) w0 (hb.alloc hB _) (by simp; omega) (by simp; omega) h

set_option maxHeartbeats 2000000 in
theorem texts_any (A : Option Addr) (c : Nat) (l : List UInt8) (p limit : Int) (hp1 : -9223372036854775808 ≤ p) (hp2 : p ≤ 9223372036854775807) (w : World) (hsl : CL bv w w.heap.size A l) (hc : l.length ≤ c) (hn : l.length ≤ 1099511627776) :
    Calls Try.prog 28 #[.slice A l.length c, .int .i64 p, .int .i64 limit] w (RetTs (textsR l p limit) w) := by
  have hcn := count_any A c l p limit hp1 hp2 w _ hsl hc (by omega)
  have hok := fun n nx => @countR_ok l p limit n nx
  have HT : Hid (∀ (q : Nat) (wr : World), q ≤ l.length → Below w.heap.size w wr → Calls Try.prog 26 #[.slice A l.length c, .int .i64 (q : Int), .int .i64 limit] wr fun e w' => e = triS (textR l q limit) ∧ wr = w') :=
    Lib.hid (fun q wr hq hb => text_any A c l q limit (by omega) (by omega) wr _ (hsl.below hb) hc (by omega))
  unfold textsR
  generalize countR l p limit = r at hcn hok ⊢
  obtain ⟨n, nx, e⟩ := r
  have HC := Lib.hid hcn
  clear hcn hp1 hp2 hsl hc
  dsimp only
  by_cases he : e = 0
  · subst he
    obtain ⟨k, j, m, q1, rfl, rfl, q2, q3, q4, hkj, hm, q5⟩ := hok n nx rfl
    clear hok q1 q2 q4 q5
    rw [if_neg (by simp), Int.toNat_natCast]
    have hkj1 : 1 ≤ k + j := by omega
    generalize k + j = s at *
    generalize hR : textsF m l (s : Int) limit [] = R
    have HR := Lib.hid hR
    clear hR q3
    go_enter Try.func28, Try.ntmps28
    go_wp2_with fail
    refine HC.out.mono ?_
    rintro e w' ⟨rfl, rfl⟩
    clear HC
    unfold tri
    go_wp2_with fail
    go_loopw [10, 11, 12, 13, 26] (fun q ec ls st idx wr => ∃ (i r p2 : Nat) (acc : List ByteArray), idx = .int .i64 i ∧ i + r = m ∧ q = .int .i64 p2 ∧ p2 ≤ l.length ∧ acc.length ≤ p2 ∧ textsF r l p2 limit acc = R ∧ Own 9 Value.string wr w.heap.size ls acc ∧ Below w.heap.size w wr) (fun _ _ _ _ idx _ => m - (intOf idx).toNat)
    case atStart => exact ⟨0, m, s, [], rfl, by omega, rfl, hkj, by simp, HR.out, Own.nil _ _, Below.refl _ _⟩
    case round =>
      obtain ⟨i, r, p2, acc, rfl, hir, rfl, hp2, hacc, hrel, hown, hb⟩ := hrel
      have HO := Lib.hid hown
      have HREL := Lib.hid hrel
      have HIR := Lib.hid hir
      have him : i ≤ m := by omega
      clear hown hrel HR hir
      cases r with
      | zero =>
        obtain rfl : i = m := by have := HIR.out; omega
        go_wp2_with fail
        go_ret3
        rw [← HREL.out]
        exact ⟨_, rfl, HO.out, hb⟩
      | succ r =>
        have hlt : i < m := by have := HIR.out; omega
        have ht := HT.out p2 wr hp2 hb
        have hok2 := fun s nx => @textR_ok l p2 limit nx s
        have hF : textsF (r + 1) l p2 limit acc = R := HREL.out
        rw [textsF] at hF
        generalize textR l p2 limit = t at ht hok2 hF
        obtain ⟨st, nx2, e2⟩ := t
        have HTT := Lib.hid ht
        have HF := Lib.hid hF
        clear ht hF HREL
        by_cases he2 : e2 = 0
        · subst he2
          obtain ⟨k', j', q1, rfl, q3, q4, q5, q6⟩ := hok2 st nx2 rfl
          obtain rfl : p2 = k' := by omega
          clear hok2 q1 q5 q6
          have HF2 : Hid (textsF r l ((p2 + j' : Nat) : Int) limit (acc ++ [st]) = R) := Lib.hid (by
            have := HF.out
            dsimp only at this
            rw [if_neg (by simp)] at this
            exact this)
          clear HF
          generalize hp3 : p2 + j' = p3 at HTT HF2 q4
          have hp3' : p2 < p3 := by omega
          have hBs := hb.size
          clear hp3 q3
          go_wp2_with first | (at_builtin; go_must (refine wpList_appS1 wr rfl _ _ rfl w.heap.size u12 acc st rfl HO.out rfl w hb hBs (by omega) ?_); intro v1 w1 hown1 hb1 hB1) | (go_at_call 26; refine HTT.out.mono ?_; rintro e w' ⟨rfl, rfl⟩; unfold triS)
          exact ⟨⟨i + 1, r, p3, acc ++ [st], by go_num, by have := HIR.out; omega, rfl, q4, by simp; omega, HF2.out, hown1, hb1⟩, by simp [intOf]; omega⟩
        · have hb2 : (e2 != 0) = true := by simp [he2]
          have HF2 : Hid (([], 0, e2) = R) := Lib.hid (by
            have := HF.out
            dsimp only at this
            rw [if_pos he2] at this
            exact this)
          clear HF hok2 he2
          go_wp2_with (go_at_call 26; refine HTT.out.mono ?_; rintro e w' ⟨rfl, rfl⟩; unfold triS)
          go_ret3
          rw [← HF2.out]
          exact ⟨_, rfl, Own.nil _ _, hb⟩
  · rw [if_pos he]
    have hb : (e != 0) = true := by simp [he]
    clear he hok
    go_enter Try.func28, Try.ntmps28
    go_wp2_with fail
    refine HC.out.mono ?_
    rintro e w' ⟨rfl, rfl⟩
    unfold tri
    go_wp2
    go_ret3
    exact ⟨_, rfl, Own.nil _ _, Below.refl _ _⟩

set_option maxHeartbeats 2000000 in
theorem rTexts_any (A : Option Addr) (c : Nat) (l : List UInt8) (p limit : Int) (hp1 : -9223372036854775808 ≤ p) (hp2 : p ≤ 9223372036854775807) (w : World) (hsl : CL bv w w.heap.size A l) (hc : l.length ≤ c) (hn : l.length ≤ 1099511627776) :
    Calls Try.prog 29 #[.slice A l.length c, .int .i64 p, .int .i64 limit] w (RetTs (textsR l p limit) w) := by
  have hcn := rCount_any A c l p limit hp1 hp2 w _ hsl hc (by omega)
  have hok := fun n nx => @countR_ok l p limit n nx
  have HT : Hid (∀ (q : Nat) (wr : World), q ≤ l.length → Below w.heap.size w wr → Calls Try.prog 27 #[.slice A l.length c, .int .i64 (q : Int), .int .i64 limit] wr fun e w' => e = triS (textR l q limit) ∧ wr = w') :=
    Lib.hid (fun q wr hq hb => rText_any A c l q limit (by omega) (by omega) wr _ (hsl.below hb) hc (by omega))
  unfold textsR
  generalize countR l p limit = r at hcn hok ⊢
  obtain ⟨n, nx, e⟩ := r
  have HC := Lib.hid hcn
  clear hcn hp1 hp2 hsl hc
  dsimp only
  by_cases he : e = 0
  · subst he
    obtain ⟨k, j, m, q1, rfl, rfl, q2, q3, q4, hkj, hm, q5⟩ := hok n nx rfl
    clear hok q1 q2 q4 q5
    rw [if_neg (by simp), Int.toNat_natCast]
    have hkj1 : 1 ≤ k + j := by omega
    generalize k + j = s at *
    generalize hR : textsF m l (s : Int) limit [] = R
    have HR := Lib.hid hR
    clear hR q3
    go_enter Try.func29, Try.ntmps29
    go_wp2_with fail
    refine HC.out.mono ?_
    rintro e w' ⟨rfl, rfl⟩
    clear HC
    unfold tri
    go_wp2_with fail
    go_loopw [10, 12, 13] (fun q ls idx wr => ∃ (i r p2 : Nat) (acc : List ByteArray), idx = .int .i64 i ∧ i + r = m ∧ q = .int .i64 p2 ∧ p2 ≤ l.length ∧ acc.length ≤ p2 ∧ textsF r l p2 limit acc = R ∧ Own 9 Value.string wr w.heap.size ls acc ∧ Below w.heap.size w wr) (fun _ _ idx _ => m - (intOf idx).toNat)
    case atStart => exact ⟨0, m, s, [], rfl, by omega, rfl, hkj, by simp, HR.out, Own.nil _ _, Below.refl _ _⟩
    case round =>
      obtain ⟨i, r, p2, acc, rfl, hir, rfl, hp2, hacc, hrel, hown, hb⟩ := hrel
      have HO := Lib.hid hown
      have HREL := Lib.hid hrel
      have HIR := Lib.hid hir
      have him : i ≤ m := by omega
      clear hown hrel HR hir
      cases r with
      | zero =>
        obtain rfl : i = m := by have := HIR.out; omega
        go_wp2_with fail
        go_ret3
        rw [← HREL.out]
        exact ⟨_, rfl, HO.out, hb⟩
      | succ r =>
        have hlt : i < m := by have := HIR.out; omega
        have ht := HT.out p2 wr hp2 hb
        have hok2 := fun s nx => @textR_ok l p2 limit nx s
        have hF : textsF (r + 1) l p2 limit acc = R := HREL.out
        rw [textsF] at hF
        generalize textR l p2 limit = t at ht hok2 hF
        obtain ⟨st, nx2, e2⟩ := t
        have HTT := Lib.hid ht
        have HF := Lib.hid hF
        clear ht hF HREL
        by_cases he2 : e2 = 0
        · subst he2
          obtain ⟨k', j', q1, rfl, q3, q4, q5, q6⟩ := hok2 st nx2 rfl
          obtain rfl : p2 = k' := by omega
          clear hok2 q1 q5 q6
          have HF2 : Hid (textsF r l ((p2 + j' : Nat) : Int) limit (acc ++ [st]) = R) := Lib.hid (by
            have := HF.out
            dsimp only at this
            rw [if_neg (by simp)] at this
            exact this)
          clear HF
          generalize hp3 : p2 + j' = p3 at HTT HF2 q4
          have hp3' : p2 < p3 := by omega
          have hBs := hb.size
          clear hp3 q3
          go_wp2_with first | (at_builtin; go_must (refine wpList_appS1 wr rfl _ _ rfl w.heap.size u12 acc st rfl HO.out rfl w hb hBs (by omega) ?_); intro v1 w1 hown1 hb1 hB1) | (go_at_call 27; refine HTT.out.mono ?_; rintro e w' ⟨rfl, rfl⟩; unfold triS)
          exact ⟨⟨i + 1, r, p3, acc ++ [st], by go_num, by have := HIR.out; omega, rfl, q4, by simp; omega, HF2.out, hown1, hb1⟩, by simp [intOf]; omega⟩
        · have hb2 : (e2 != 0) = true := by simp [he2]
          have HF2 : Hid (([], 0, e2) = R) := Lib.hid (by
            have := HF.out
            dsimp only at this
            rw [if_pos he2] at this
            exact this)
          clear HF hok2 he2
          go_wp2_with (go_at_call 27; refine HTT.out.mono ?_; rintro e w' ⟨rfl, rfl⟩; unfold triS)
          go_ret3
          rw [← HF2.out]
          exact ⟨_, rfl, Own.nil _ _, hb⟩
  · rw [if_pos he]
    have hb : (e != 0) = true := by simp [he]
    clear he hok
    go_enter Try.func29, Try.ntmps29
    go_wp2_with fail
    refine HC.out.mono ?_
    rintro e w' ⟨rfl, rfl⟩
    unfold tri
    go_wp2
    go_ret3
    exact ⟨_, rfl, Own.nil _ _, Below.refl _ _⟩

/-! ### Same of lists of texts -/
def SameUpto (xs ys : List ByteArray) (i : Nat) : Prop := ∀ j, j < i → xs[j]? = ys[j]?
theorem SameUpto.succ {xs ys : List ByteArray} {i : Nat} (h : SameUpto xs ys i) (hi : xs[i]? = ys[i]?) : SameUpto xs ys (i + 1) := fun j hj => by
  rcases Nat.lt_succ_iff_lt_or_eq.1 hj with h' | h'
  · exact h j h'
  · subst h'; exact hi
theorem SameUpto.all {xs ys : List ByteArray} (h : SameUpto xs ys xs.length) (hl : xs.length = ys.length) : decide (xs = ys) = true := by
  refine decide_eq_true (List.ext_getElem? fun j => ?_)
  by_cases hj : j < xs.length
  · exact h j hj
  · rw [List.getElem?_eq_none (by omega), List.getElem?_eq_none (by omega)]
theorem sameL_len {xs ys : List ByteArray} (h : xs.length ≠ ys.length) : decide (xs = ys) = false := decide_eq_false (fun e => h (by rw [e]))
theorem sameL_at {xs ys : List ByteArray} {i : Nat} (h : xs[i]? ≠ ys[i]?) : decide (xs = ys) = false := decide_eq_false (fun e => h (by rw [e]))
theorem same_hit {xs ys : List ByteArray} {i : Nat} {x y : ByteArray} (h : (!x.toList == y.toList) = true) (hx : xs[i]? = some x) (hy : ys[i]? = some y) : decide (xs = ys) = false := by
  refine sameL_at (i := i) ?_
  rw [hx, hy]
  intro e
  obtain rfl := Option.some.inj e
  simp at h
theorem same_miss {xs ys : List ByteArray} {i : Nat} {x y : ByteArray} (h : (!x.toList == y.toList) = false) (hx : xs[i]? = some x) (hy : ys[i]? = some y) : xs[i]? = ys[i]? := by
  have e : x = y := str_eq.1 (by simpa using h)
  rw [hx, hy, e]

set_option maxHeartbeats 400000 in
theorem sameL_any (A A' : Option Addr) (c c' : Nat) (xs ys : List ByteArray) (w : World) (B : Nat) (h : SL w B A xs) (h' : SL w B A' ys) (hx63 : xs.length ≤ 9223372036854775807) :
    Calls Try.prog 30 #[.slice A xs.length c, .slice A' ys.length c'] w fun e w' => e = .returned (.bool (decide (xs = ys))) ∧ ∃ n, w.drewN n = w' := by
  by_cases hl : xs.length = ys.length
  · have hb : ((xs.length : Int) != (ys.length : Int)) = false := by simp [hl]
    have HLN := Lib.hid hl
    have hyl : ¬ ((ys.length : Int) < (xs.length : Int)) := by omega
    have hyl2 : ¬ ((xs.length : Int) < (ys.length : Int)) := by omega
    clear hl
    have HS := Lib.hid h
    have HS' := Lib.hid h'
    clear h h'
    go_enter Try.func30, Try.ntmps30
    go_wp2
    go_loopw [5] (fun v wr => ∃ (i n : Nat), i ≤ xs.length ∧ v = .int .i64 i ∧ SameUpto xs ys i ∧ wr = w.drewN n) (fun v _ => xs.length - (intOf v).toNat)
    case atStart => exact ⟨0, 0, by omega, rfl, fun _ h => absurd h (Nat.not_lt_zero _), rfl⟩
    case round =>
      obtain ⟨i, n, hi, rfl, hno, rfl⟩ := hrel
      have HN := Lib.hid hno
      clear hno
      by_cases hlt : i < xs.length
      · have hlt' : i < ys.length := by have := HLN.out; omega
        obtain ⟨b, o, rfl, hbB, hc⟩ := HS.out (by omega)
        obtain ⟨b', o', rfl, hbB', hc'⟩ := HS'.out (by omega)
        obtain ⟨x, hx⟩ : ∃ x, xs[i]? = some x := ⟨_, List.getElem?_eq_getElem hlt⟩
        obtain ⟨y, hy⟩ : ∃ y, ys[i]? = some y := ⟨_, List.getElem?_eq_getElem hlt'⟩
        have k1 := hc i x hx
        have k2 := hc' i y hy
        have HX := Lib.hid hx
        have HY := Lib.hid hy
        clear hc hc' hx hy HS HS'
        go_wp2
        go_quiet (fail)
        go_wp2
        · go_ret
          exact ⟨retb (same_hit (by assumption) HX.out HY.out).symm, _, (World.drewN_drewN _ _ _).symm⟩
        · exact ⟨⟨i + 1, _, by omega, by go_num, HN.out.succ (same_miss (by assumption) HX.out HY.out), rfl⟩, by simp [intOf]; omega⟩
      · have HZ := Lib.hid (show i = xs.length by omega)
        go_wp2
        go_ret
        exact ⟨retb (SameUpto.all (by rw [← HZ.out]; exact HN.out) HLN.out).symm, _, rfl⟩
  · have hb : ((xs.length : Int) != (ys.length : Int)) = true := by simp; omega
    have HLN := Lib.hid (sameL_len hl)
    clear hl h h'
    go_enter Try.func30, Try.ntmps30
    go_wp2
    go_ret
    exact ⟨retb HLN.out.symm, 0, rfl⟩

end Go.Proofs.Ytijdfadmmloclaa
