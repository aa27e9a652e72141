/-
  What Take and Cancel of will answer. Conditions: the lists read as data; few wills, with few properties.
-/
import Derived.Test.YtoakhkiiefiebabDoorDc
namespace Go.Proofs.YtoakhkiiefiebabDoor
open Go.RowKit
open S2 (BK Put)

/-- two lists that a call answers -/
def RetDD (r1 r2 : List Du) (W : World) (E : Ending) (w' : World) : Prop := ∃ A1 c1 ys A2 c2 zs, E = .returned (.tuple #[.slice A1 (List.length (α := DE) ys) c1, .slice A2 (List.length (α := DE) zs) c2]) ∧ ys.map DE.d = r1 ∧ zs.map DE.d = r2 ∧ ys.length ≤ c1 ∧ zs.length ≤ c2 ∧ DI w' w'.heap.size A1 ys ∧ DI w' w'.heap.size A2 zs ∧ Below W.heap.size W w'
/-- a list and a truth value that a call answers -/
def RetDB (r : List Du) (b : Bool) (W : World) (E : Ending) (w' : World) : Prop := ∃ A c ys, E = .returned (.tuple #[.slice A (List.length (α := DE) ys) c, .bool b]) ∧ ys.map DE.d = r ∧ ys.length ≤ c ∧ DI w' w'.heap.size A ys ∧ Below W.heap.size W w'
theorem lstDI {B : Nat} {w : World} {v : Value} {xs : List DE} (h : LstD B w v xs) : ∃ A c, v = .slice A xs.length c ∧ xs.length ≤ c ∧ DI w w.heap.size A xs := LI.app gD_len h
def dueR (now : Int) (l : List Du) : List Du := l.filter (fun x => decide (x.tm ≤ now))
def laterR (now : Int) (l : List Du) : List Du := l.filter (fun x => !decide (x.tm ≤ now))
/-- without the first element of a client; whether there is one -/
def canR (l : List Du) (cl : ByteArray) : List Du := l.eraseIdx (l.findIdx (fun x => decide (x.cl = cl)))
def hasR (l : List Du) (cl : ByteArray) : Bool := l.any (fun x => decide (x.cl = cl))

set_option maxRecDepth 20000 in
set_option maxHeartbeats 4000000 in
theorem wTake_any (A : Option Addr) (c : Nat) (xs : List DE) (now : Int) (w : World) (hsl : DI w w.heap.size A xs) (hn : xs.length ≤ 90000) (hp : ∀ x ∈ xs, x.d.m.props.length ≤ 4398046511104) :
    Calls Tryd.prog 11 #[.slice A xs.length c, .int .i64 now] w (RetDD (dueR now (xs.map DE.d)) (laterR now (xs.map DE.d)) w) := by
  have HCL := Lib.hid (dClone_any A c xs w hsl (by omega) hp)
  have HN := Lib.hid hn
  clear hsl hp
  go_enter Tryd.func11, Tryd.ntmps11
  go_wp2_with fail
  refine HCL.out.mono ?_
  rintro e w1 ⟨v1, ls, rfl, hls, hl1, hb1⟩
  obtain ⟨A1, c1, rfl, hc1, hmi⟩ := lstDI hl1
  have HS := Lib.hid hmi
  have HB1 := Lib.hid hb1
  have hll : ls.length = xs.length := by have := congrArg List.length hls; simpa using this
  have HLS := Lib.hid hls
  have hn2 : ls.length ≤ 90000 := by omega
  clear hb1 hc1 hmi hl1 hls hll HCL hn
  go_wp2_with fail
  go_loopg [6, 7, 13] ls.length (fun g u6 u7 v wr => ∃ (k : Nat) (fs es : List DE), k + g = ls.length ∧ v = .int .i64 k ∧ fs.map DE.d = dueR now ((ls.map DE.d).take k) ∧ es.map DE.d = laterR now ((ls.map DE.d).take k) ∧ fs.length ≤ k ∧ es.length ≤ k ∧ Two 45 gD 11 DE.a dps w1.heap.size wr u6 fs u7 es ∧ Below w1.heap.size w1 wr)
  case atStart => exact ⟨0, [], [], by omega, rfl, rfl, rfl, Nat.le_refl _, Nat.le_refl _, Two.nil, Below.refl _ _⟩
  case round =>
    obtain ⟨k, fs, es, hkg, rfl, hfs, hes, hfl, hel, htw, hb0⟩ := hrel
    have HF := Lib.hid hfs
    have HES := Lib.hid hes
    have HFL := Lib.hid hfl
    have HEL := Lib.hid hel
    have HT := Lib.hid htw
    have HB0 := Lib.hid hb0
    have HK := Lib.hid hkg
    clear hfs hes hfl hel htw hb0
    cases gk with
    | zero =>
      obtain rfl : k = ls.length := by omega
      obtain ⟨A1, c1, A2, c2, rfl, rfl, hc1, hc2, hl1, hl2⟩ := HT.out.ret gD_len
      have HL := Lib.hid (And.intro hc1 (And.intro hc2 (And.intro hl1 hl2)))
      clear hkg hc1 hc2 hl1 hl2
      go_wp2
      go_ret2
      have e9 : (ls.map DE.d).take ls.length = ls.map DE.d := List.take_of_length_le (by simp)
      exact ⟨A1, c1, fs, A2, c2, es, rfl, by rw [HF.out, e9, HLS.out], by rw [HES.out, e9, HLS.out], HL.out.1, HL.out.2.1, HL.out.2.2.1, HL.out.2.2.2, stepB HB1.out HB0.out⟩
    | succ gk =>
      have hlt : k < ls.length := by omega
      have e3 : decide ((k : Int) < (ls.length : Int)) = true := decide_eq_true (by omega)
      obtain ⟨x, hx⟩ : ∃ x, ls[k]? = some x := ⟨_, List.getElem?_eq_getElem hlt⟩
      obtain ⟨b, o, hA, hbB, hc, hpl⟩ := (HS.out.step HB0.out).at_ hx
      have HLD := Lib.hid (load_due hc)
      have HXM : Hid ((ls.map DE.d)[k]? = some x.d) := Lib.hid (by rw [List.getElem?_map, hx]; rfl)
      have HPW : Hid (PL w1 w1.heap.size x.a x.d.m.props) := Lib.hid (HS.out.2 x (List.mem_of_getElem? hx))
      subst hA
      have j1 : (0 : Int) ≤ (k : Int) := by omega
      have j2 : (k : Int) < (ls.length : Int) := by omega
      have hlk : k ≤ 90000 := by omega
      clear hx hc hpl hbB hkg
      by_cases ht : x.d.tm ≤ now
      · have q1 : decide (x.d.tm ≤ now) = true := decide_eq_true ht
        have HQ := Lib.hid q1
        clear ht
        go_wp2_with first
          | (refine wpList_load_v (by rfl) 45 _ rfl ⟨b, o + k * 11, none⟩ (by simp [Act.eval, Act.put]) _ HLD.out ?_)
          | (refine S2.wpList_store_all (by rfl) 45 (.tmp 9) (.tmp 16) rfl rfl wr.heap.size rfl (gD x) rfl 45 (gD DE.zero) (BK.new wr _ _) dueSize rfl (gD_one _) ?_; intro w2 hM hP; have V_w2 : Hid (BK 45 w2 wr.heap.size (gD x)) := Lib.hid hM; have d1 := hM.cell 1 rfl; have hb : Below wr.heap.size wr w2 := hP.below (S2.below_new wr _) (Nat.le_refl _); have T_w2 := Lib.hid (HT.out.step hb); have B_w2 := Lib.hid (stepB HB0.out hb); clear hM hP hb HT HB0 HLD)
          | (refine wpList_load_v (by rfl) 45 (.tmp 9) rfl ⟨wr.heap.size, 0, none⟩ rfl (.agg (gD x).toArray) (S2.run_load_all V_w2.out Tryd.underlying45 rfl dueSize) ?_; simp only [gD])
          | (at_builtin; refine wpList_two gD_len gD_one (by decide) w2 rfl _ _ 23 rfl (.agg (gD DE.zero).toArray) 136 Tryd.underlying23 dueInfo rfl x rfl (T_w2.out.symm) (by rfl) (GL.step HPW.out B_w2.out) (fun b o e hn => ⟨fun e2 => by have := PL.lt HPW.out hn b o e; have := (own_lt (T_w2.out.symm).a b e2).1; omega, fun e2 => by have := PL.lt HPW.out hn b o e; have := (own_lt (T_w2.out.symm).b b e2).1; omega⟩) w1 B_w2.out B_w2.out.size (by have := HFL.out; omega) (by decide) ?_; intro v5 w5 ht5 hb5 hs5)
        have T_w5 := Lib.hid ht5.symm
        have B_w5 := Lib.hid hb5
        clear ht5 hb5 hs5
        go_roundg gk
        case measure => omega
        case rel => exact ⟨k + 1, fs ++ [x], es, by have := HK.out; omega, by go_num, by rw [List.map_append, HF.out, List.take_add_one, HXM.out]; simp [dueR, HQ.out], by rw [HES.out, List.take_add_one, HXM.out]; simp [laterR, HQ.out], by have := HFL.out; simp <;> omega, by have := HEL.out; simp <;> omega, T_w5.out, B_w5.out⟩
      · have q1 : decide (x.d.tm ≤ now) = false := decide_eq_false ht
        have HQ := Lib.hid q1
        clear ht
        go_wp2_with first
          | (refine wpList_load_v (by rfl) 45 _ rfl ⟨b, o + k * 11, none⟩ (by simp [Act.eval, Act.put]) _ HLD.out ?_)
          | (refine S2.wpList_store_all (by rfl) 45 (.tmp 9) (.tmp 16) rfl rfl wr.heap.size rfl (gD x) rfl 45 (gD DE.zero) (BK.new wr _ _) dueSize rfl (gD_one _) ?_; intro w2 hM hP; have V_w2 : Hid (BK 45 w2 wr.heap.size (gD x)) := Lib.hid hM; have d1 := hM.cell 1 rfl; have hb : Below wr.heap.size wr w2 := hP.below (S2.below_new wr _) (Nat.le_refl _); have T_w2 := Lib.hid (HT.out.step hb); have B_w2 := Lib.hid (stepB HB0.out hb); clear hM hP hb HT HB0 HLD)
          | (refine wpList_load_v (by rfl) 45 (.tmp 9) rfl ⟨wr.heap.size, 0, none⟩ rfl (.agg (gD x).toArray) (S2.run_load_all V_w2.out Tryd.underlying45 rfl dueSize) ?_; simp only [gD])
          | (at_builtin; refine wpList_two gD_len gD_one (by decide) w2 rfl _ _ 23 rfl (.agg (gD DE.zero).toArray) 136 Tryd.underlying23 dueInfo rfl x rfl (T_w2.out) (by rfl) (GL.step HPW.out B_w2.out) (fun b o e hn => ⟨fun e2 => by have := PL.lt HPW.out hn b o e; have := (own_lt (T_w2.out).a b e2).1; omega, fun e2 => by have := PL.lt HPW.out hn b o e; have := (own_lt (T_w2.out).b b e2).1; omega⟩) w1 B_w2.out B_w2.out.size (by have := HEL.out; omega) (by decide) ?_; intro v5 w5 ht5 hb5 hs5)
        have T_w5 := Lib.hid ht5
        have B_w5 := Lib.hid hb5
        clear ht5 hb5 hs5
        go_roundg gk
        case measure => omega
        case rel => exact ⟨k + 1, fs, es ++ [x], by have := HK.out; omega, by go_num, by rw [HF.out, List.take_add_one, HXM.out]; simp [dueR, HQ.out], by rw [List.map_append, HES.out, List.take_add_one, HXM.out]; simp [laterR, HQ.out], by have := HFL.out; simp <;> omega, by have := HEL.out; simp <;> omega, T_w5.out, B_w5.out⟩

/-- none ahead of k is the client's -/
def NoCl (l : List Du) (cl : ByteArray) (k : Nat) : Prop := ∀ j x, j < k → l[j]? = some x → x.cl ≠ cl
theorem NoCl.succ {l : List Du} {cl : ByteArray} {k : Nat} {x : Du} (h : NoCl l cl k) (hx : l[k]? = some x) (hn : x.cl ≠ cl) : NoCl l cl (k + 1) := fun j y hj hy => by
  rcases Nat.lt_succ_iff_lt_or_eq.1 hj with h' | rfl
  · exact h j y h' hy
  · rw [hx] at hy; rw [← Option.some.inj hy]; exact hn
theorem can_found {l : List Du} {cl : ByteArray} {k : Nat} {x : Du} (h : NoCl l cl k) (hx : l[k]? = some x) (hc : x.cl = cl) : canR l cl = l.eraseIdx k ∧ hasR l cl = true := by
  obtain ⟨hk, e⟩ := List.getElem?_eq_some_iff.1 hx
  refine ⟨?_, by unfold hasR; rw [List.any_eq_true]; exact ⟨x, List.mem_of_getElem? hx, decide_eq_true hc⟩⟩
  unfold canR
  rw [show l.findIdx (fun x => decide (x.cl = cl)) = k from (List.findIdx_eq hk).2 ⟨by rw [e]; exact decide_eq_true hc, fun j hj => decide_eq_false (h j _ hj (List.getElem?_eq_getElem (by omega)))⟩]
theorem can_none {l : List Du} {cl : ByteArray} (h : NoCl l cl l.length) : canR l cl = l ∧ hasR l cl = false := by
  have h1 : ∀ x ∈ l, decide (x.cl = cl) = false := fun x hx => by
    obtain ⟨j, hj⟩ := List.mem_iff_getElem?.1 hx
    exact decide_eq_false (h j x (List.getElem?_eq_some_iff.1 hj).1 hj)
  refine ⟨?_, by unfold hasR; rw [List.any_eq_false]; intro x hx; rw [h1 x hx]; simp⟩
  unfold canR
  rw [List.findIdx_eq_length.2 h1]
  exact List.eraseIdx_of_length_le (Nat.le_refl _)
theorem str_eqb (a b : ByteArray) : (a.toList == b.toList) = decide (a = b) := str_dec a b

set_option maxRecDepth 20000 in
set_option maxHeartbeats 4000000 in
theorem wCancel_any (A : Option Addr) (c : Nat) (xs : List DE) (cl : ByteArray) (w : World) (hsl : DI w w.heap.size A xs) (hn : xs.length ≤ 90000) (hp : ∀ x ∈ xs, x.d.m.props.length ≤ 4398046511104) :
    Calls Tryd.prog 9 #[.slice A xs.length c, .string cl] w fun E w' => ∃ v ys, E = .returned (.tuple #[v, .bool (hasR (xs.map DE.d) cl)]) ∧ ys.map DE.d = canR (xs.map DE.d) cl ∧ LstD w.heap.size w' v ys ∧ Below w.heap.size w w' := by
  have HCL := Lib.hid (dClone_any A c xs w hsl (by omega) hp)
  obtain ⟨R1, hR1⟩ : ∃ R, canR (xs.map DE.d) cl = R := ⟨_, rfl⟩
  obtain ⟨R2, hR2⟩ : ∃ R, hasR (xs.map DE.d) cl = R := ⟨_, rfl⟩
  rw [hR1, hR2]
  have HR := Lib.hid (And.intro hR1 hR2)
  clear hsl hp hR1 hR2
  go_enter Tryd.func9, Tryd.ntmps9
  go_wp2_with fail
  refine HCL.out.mono ?_
  rintro e w1 ⟨v1, ls, rfl, hls, hl1, hb1⟩
  have HLS := Lib.hid hl1
  have HB1 := Lib.hid hb1
  have hll : ls.length = xs.length := by have := congrArg List.length hls; simpa using this
  have HR' : Hid (canR (ls.map DE.d) cl = R1 ∧ hasR (ls.map DE.d) cl = R2) := Lib.hid (by rw [hls]; exact HR.out)
  have hn2 : ls.length ≤ 90000 := by omega
  rcases own_rowG hl1.1 with ⟨rfl, rfl⟩ | ⟨g, cap, sp, rfl, hbg, hg, hnc, hcm, hcs⟩
  · clear hb1 hl1 hls hll HCL hn hn2 HLS
    go_wp2_with fail
    go_loopg [12] 0 (fun g v wr => g = 0 ∧ v = .int .i64 0 ∧ wr = w1)
    case atStart => exact ⟨rfl, rfl, rfl⟩
    case round =>
      obtain ⟨rfl, rfl, rfl⟩ := hrel
      have HRR := HR'.out
      obtain ⟨rfl, rfl⟩ := HRR
      go_wp2
      go_ret2
      refine ⟨.slice none 0 0, ?_⟩
      first
        | exact ⟨([] : List DE), rfl, rfl, Lst.nil, HB1.out⟩
        | exact ⟨rfl, ([] : List DE), rfl, Lst.nil, HB1.out⟩
  have HG := Lib.hid (And.intro hbg (And.intro hg (And.intro hnc (And.intro hcm hcs))))
  clear hb1 hl1 hls hll HCL hn hbg hg hnc hcm hcs
  go_wp2_with fail
  go_loopg [12] ls.length (fun gg v wr => ∃ (k : Nat), k + gg = ls.length ∧ v = .int .i64 k ∧ NoCl (ls.map DE.d) cl k ∧ wr = w1)
  case atStart => exact ⟨0, by omega, rfl, (fun j x h => absurd h (by omega)), rfl⟩
  case round =>
    obtain ⟨k, hkg, rfl, hno, rfl⟩ := hrel
    have HNO := Lib.hid hno
    have HK := Lib.hid hkg
    clear hno
    cases gk with
    | zero =>
      obtain rfl : k = ls.length := by omega
      obtain ⟨h1, h2⟩ := can_none (l := ls.map DE.d) (cl := cl) (by rw [List.length_map]; exact HNO.out)
      obtain rfl : R2 = false := by rw [← HR'.out.2, h2]
      clear hkg h1 h2
      go_wp2
      go_ret2
      exact ⟨_, ls, rfl, by rw [← HR'.out.1, (can_none (l := ls.map DE.d) (cl := cl) (by rw [List.length_map]; exact HNO.out)).1], HLS.out, HB1.out⟩
    | succ gk =>
      have hlt : k < ls.length := by omega
      have e3 : decide ((k : Int) < (ls.length : Int)) = true := decide_eq_true (by omega)
      obtain ⟨x, hx⟩ : ∃ x, ls[k]? = some x := ⟨_, List.getElem?_eq_getElem hlt⟩
      have d1 : wr.cell? ⟨g, k * 11, none⟩ = some (.string x.d.cl) := by have := row_atG gD_len HG.out.2.1 hx 0 _ rfl; simpa using this
      have hxm : (ls.map DE.d)[k]? = some x.d := by rw [List.getElem?_map, hx]; rfl
      have HX := Lib.hid (And.intro hx hxm)
      have j1 : (0 : Int) ≤ (k : Int) := by omega
      have j2 : (k : Int) < (ls.length : Int) := by omega
      have hlk : k ≤ 90000 := by omega
      have q0 := str_eqb x.d.cl cl
      clear hx hxm hkg
      by_cases he : x.d.cl = cl
      · have q1 : decide (x.d.cl = cl) = true := decide_eq_true he
        rw [q1] at q0
        obtain ⟨h1, h2⟩ := can_found HNO.out HX.out.2 he
        have HR1 : Hid (R1 = (ls.map DE.d).eraseIdx k) := Lib.hid (by rw [← HR'.out.1, h1])
        obtain rfl : R2 = true := by rw [← HR'.out.2, h2]
        have HDEL := Lib.hid (deleteD_any g cap k ls sp wr HG.out.2.1 hlt HG.out.2.2.1 HG.out.2.2.2.2)
        have HHE := Lib.hid he
        clear h1 h2 he
        go_wp2_with fail
        refine HDEL.out.mono ?_
        rintro e w2 ⟨sp2, rfl, hg2, hl2, hP⟩
        have HLL : Hid (LstD w.heap.size w2 (.slice (some ⟨g, 0, none⟩) (ls.eraseIdx k).length cap) (ls.eraseIdx k)) := Lib.hid (by
          have hle : (ls.eraseIdx k).length ≤ ls.length := by rw [List.length_eraseIdx]; split <;> omega
          refine ⟨row_ownG gD_len HG.out.1 hg2 (by have := HG.out.2.2.1; omega) HG.out.2.2.2.1 hl2, fun y hy => ?_⟩
          obtain ⟨p1, p2, p3⟩ := HLS.out.2 y (List.mem_of_mem_eraseIdx hy)
          refine ⟨by rw [hP.size]; exact PL.putA p1 hP (fun hn b o e => by exact p2 b o e hn g _ _ rfl), fun b o e hn q n c ev => ?_, p3⟩
          simp only [Value.slice.injEq, Option.some.injEq, Addr.mk.injEq, and_true] at ev
          rw [← ev.1]
          exact p2 b o e hn g _ _ rfl)
        have B_w2 := Lib.hid (hP.below HB1.out HG.out.1)
        clear hg2 hl2 hP HDEL
        go_wp2
        go_ret2
        exact ⟨_, ls.eraseIdx k, rfl, by rw [HR1.out, erase_eq, erase_eq, List.map_append, List.map_take, List.map_drop], HLL.out, B_w2.out⟩
      · have q1 : decide (x.d.cl = cl) = false := decide_eq_false he
        rw [q1] at q0
        have HHE := Lib.hid he
        clear he
        go_wp2_with fail
        go_roundg gk
        case measure => omega
        case rel => exact ⟨k + 1, by have := HK.out; omega, by go_num, HNO.out.succ HX.out.2 HHE.out, rfl⟩
end Go.Proofs.YtoakhkiiefiebabDoor
