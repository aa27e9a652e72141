/-
What Grow of a nil slice and Concat of two slices of bytes answer. Conditions: the bytes read as data; so many bytes fit a slice.
What Put of message answers: the bytes that came in, then the message's. Conditions: the message reads as data; its texts and lists are not long.
The walks of Put of message and of the specification: the bytes that came in, then the message's. Conditions: the message reads as data; its numbers fit; its texts and lists are not long.
-/
import Derived.Test.YtdkegoaflabjoaaGreatDoorBack3
import Derived.Test.YtdkegoaflabjoaaGreatDoorCheck
import Derived.Test.YtdkegoaflabjoaaGreatDoorSetR
import Derived.Deep.LoopGhost
import Derived.Deep.RegionHeld3
import Derived.Lib.AppendZeros
set_option maxHeartbeats 8000000
set_option maxRecDepth 20000
namespace Go.Proofs.YtdkegoaflabjoaaGreatDoor
open Go.RowKit

theorem grow_any (n : Nat) (w : World) (hn : n ≤ 140737488355328) :
 Calls Tryz.prog 124 #[.slice none 0 0, .int .i64 n] w fun e w' => ∃ v, e = .returned v ∧ Own 5 bv w' w.heap.size v [] ∧ Below w.heap.size w w' := by
 obtain ⟨i0, hi0, hz0, hzs, hzb⟩ := info_parts infoU8
 have q0 : decide ((n : Int) < 0) = false := decide_eq_false (by omega)
 by_cases h0 : n = 0
 · subst h0
   clear hi0 hz0 hzs hzb hn
   go_enter Tryz.func124, Tryz.ntmps124
   go_wp2
   go_ret
   exact ⟨_, rfl, Own.nil _ _, Below.refl _ _⟩
 · have q1 : decide ((0 : Int) < (n : Int)) = true := decide_eq_true (by omega)
   obtain ⟨R, hR⟩ : ∃ R, R = Builtin.zeroCells (Value.int .u8 0).cells n ++ Builtin.zeroCells (Value.int .u8 0).cells (grownCap w n 0 5 - n) := ⟨_, rfl⟩
   obtain ⟨G, hG⟩ : ∃ G, G = grownCap w n 0 5 := ⟨_, rfl⟩
   have hGm : G ≤ maxLen := by rw [hG]; exact grownCap_le_maxLen w n 0 5 (by unfold maxLen; omega)
   have hGn : n ≤ G := by rw [hG]; exact grownCap_ge w _ _ _
   have hRs : R.size = G := by
    rw [hR, Array.size_append, size_zeroCells, size_zeroCells, ← hG]
    show n * 1 + (G - n) * 1 = G
    omega
   obtain ⟨W1, hW1⟩ : ∃ W1, W1 = w.drew.alloc (.cells R 5) := ⟨_, rfl⟩
   have hrz : ∀ ty, (Builtin.append_ #[25, 3] ty #[.slice none 0 0, .int .i64 (n : Int)]).run Tryz.prog w = .ok (.slice (some ⟨w.heap.size, 0, none⟩) n G) W1 := fun ty => by
    have h := Lib.run_append_nil_zeros (P := Tryz.prog) w 25 3 ty 5 i0 _ .i64 .i64 Tryz.underlying25 Tryz.underlying3 hi0 hz0 n (by omega) (by omega) (by omega) (by rw [hzb]; omega)
    rw [hW1, hR, hG]
    exact h
   have HO : Hid (Own 5 bv W1 w.heap.size (.slice (some ⟨w.heap.size, 0, none⟩) 0 G) []) := Lib.hid (by rw [hW1]; exact Own.made w.drew G R w.heap.size (Nat.le_refl _) hGm hRs)
   have HB : Hid (Below w.heap.size w W1) := Lib.hid (by rw [hW1]; exact ((Below.refl _ _).drew).alloc (Nat.le_refl _) _)
   have c1 : ∀ W : World, (Instr.slice 25 (.slice (some ⟨w.heap.size, 0, none⟩) n G) none (some (.int .i64 0)) none).run Tryz.prog W = .ok (.slice (some ⟨w.heap.size, 0, none⟩) 0 G) W := fun W => by
    have := run_slice_h (P := Tryz.prog) W 25 (some ⟨w.heap.size, 0, none⟩) n G undB .i64 0 (by omega) (by omega)
    rw [this, sizeB]
    simp [Result.andThen, sliced, Addr.add]
   clear hi0 hz0 hzs hzb hW1 hR hRs hG hGm
   have h63 : n ≤ 140737488355328 := hn
   go_enter Tryz.func124, Tryz.ntmps124
   go_wp2_with (at_builtin; refine Lib.wpList_append_run _ rfl _ _ _ _ rfl _ _ rfl rfl _ _ (hrz _) ?_)
   go_ret
   exact ⟨_, rfl, HO.out, HB.out⟩

theorem concat_any (q o : Nat) (A1 A2 : Option Addr) (c1 c2 : Nat) (xs ys : List UInt8) (w : World) (k0 : w.cell? ⟨q, o, none⟩ = some (.slice A1 xs.length c1)) (k1 : w.cell? ⟨q, o + 1, none⟩ = some (.slice A2 ys.length c2)) (hq : q < w.heap.size)
 (hx : CL bv w w.heap.size A1 xs) (hy : CL bv w w.heap.size A2 ys) (hn : xs.length + ys.length ≤ 100000000000000) :
 Calls Tryz.prog 111 #[.slice (some ⟨q, o, none⟩) 2 2] w (RetB (xs ++ ys) w) := by
 have HX := Lib.hid hx
 have HY := Lib.hid hy
 have hg := grow_any (xs.length + ys.length) w (by omega)
 rw [show (((xs.length + ys.length : Nat)) : Int) = (xs.length : Int) + (ys.length : Int) by omega] at hg
 have HG := Lib.hid hg
 have HK : Hid (∀ w', Below w.heap.size w w' → w'.cell? ⟨q, o, none⟩ = some (.slice A1 xs.length c1) ∧ w'.cell? ⟨q, o + 1, none⟩ = some (.slice A2 ys.length c2)) := Lib.hid fun w' h => ⟨(h.cell hq).trans k0, (h.cell hq).trans k1⟩
 clear hx hy hg
 have hn1 : xs.length ≤ 100000000000000 := by omega
 have hn2 : ys.length ≤ 100000000000000 := by omega
 have z1 : decide ((xs.length : Int) < 0) = false := decide_eq_false (by omega)
 have z2 : decide ((xs.length : Int) + (ys.length : Int) < 0) = false := decide_eq_false (by omega)
 go_enter Tryz.func111, Tryz.ntmps111
 go_wp2
 go_loopg [3, 11] 2 (fun g s i wr => w = wr ∧ ((g = 2 ∧ i = .int .i64 0 ∧ s = .int .i64 0) ∨ (g = 1 ∧ i = .int .i64 1 ∧ s = .int .i64 xs.length) ∨ (g = 0 ∧ i = .int .i64 2 ∧ s = .int .i64 ((xs.length : Int) + (ys.length : Int)))))
 case atStart => exact ⟨rfl, .inl ⟨rfl, rfl, rfl⟩⟩
 case round =>
  obtain ⟨rfl, ⟨rfl, rfl, rfl⟩ | ⟨rfl, rfl, rfl⟩ | ⟨rfl, rfl, rfl⟩⟩ := hrel
  · go_wp2
    go_roundg 1
    case measure => omega
    case rel => exact ⟨rfl, .inr (.inl ⟨rfl, rfl, rfl⟩)⟩
  · go_wp2
    go_roundg 0
    case measure => omega
    case rel => exact ⟨rfl, .inr (.inr ⟨rfl, rfl, rfl⟩)⟩
  · clear k0 k1
    go_wp2_with fail
    refine HG.out.mono ?_
    rintro e w1 ⟨v1, rfl, hown1, hb1⟩
    have HO1 := Lib.hid hown1
    have HB1 := Lib.hid hb1
    clear hown1 hb1
    go_wp2
    go_loopg [6, 27] 2 (fun g u i wr => Below w.heap.size w wr ∧ w.heap.size ≤ wr.heap.size ∧ ((g = 2 ∧ i = .int .i64 0 ∧ Own 5 bv wr w.heap.size u []) ∨ (g = 1 ∧ i = .int .i64 1 ∧ Own 5 bv wr w.heap.size u xs) ∨ (g = 0 ∧ i = .int .i64 2 ∧ Own 5 bv wr w.heap.size u (xs ++ ys))))
    case atStart => exact ⟨HB1.out, HB1.out.size, .inl ⟨rfl, rfl, HO1.out⟩⟩
    case round =>
     obtain ⟨hb, hsz, ⟨rfl, rfl, hown⟩ | ⟨rfl, rfl, hown⟩ | ⟨rfl, rfl, hown⟩⟩ := hrel
     all_goals
      have HO := Lib.hid hown
      have HB := Lib.hid hb
      clear hown hb
     · obtain ⟨kk0, _⟩ := HK.out _ HB.out
       go_wp2_with (at_builtin; go_must (refine wpList_appB wr rfl _ _ rfl w.heap.size u6 [] xs A1 c1 rfl HO.out rfl w.heap.size (HX.out.below HB.out) w HB.out hsz (by simp; omega) ?_); intro v' w2 hown' hb' hsz')
       have HO' := Lib.hid hown'
       have HB' := Lib.hid hb'
       clear hown' hb'
       go_wp2
       go_roundg 1
       case measure => omega
       case rel => exact ⟨HB'.out, hsz', .inr (.inl ⟨rfl, rfl, HO'.out⟩)⟩
     · obtain ⟨_, kk1⟩ := HK.out _ HB.out
       go_wp2_with (at_builtin; go_must (refine wpList_appB wr rfl _ _ rfl w.heap.size u6 xs ys A2 c2 rfl HO.out rfl w.heap.size (HY.out.below HB.out) w HB.out hsz (by omega) ?_); intro v' w2 hown' hb' hsz')
       have HO' := Lib.hid hown'
       have HB' := Lib.hid hb'
       clear hown' hb'
       go_wp2
       go_roundg 0
       case measure => omega
       case rel => exact ⟨HB'.out, hsz', .inr (.inr ⟨rfl, rfl, HO'.out⟩)⟩
     · go_wp2
       go_ret
       exact ⟨_, rfl, HO.out, HB.out⟩

end Go.Proofs.YtdkegoaflabjoaaGreatDoor
namespace Go.Proofs.YtdkegoaflabjoaaGreatDoor
open Go.RowKit

theorem mAddNum_any (v : Value) (xs : List UInt8) (n : Int) (h1 : -9223372036854775808 ≤ n) (h2 : n ≤ 9223372036854775807) (w : World) (B : Nat) (hown : Own 5 bv w B v xs) (hB : B ≤ w.heap.size) (hn : xs.length ≤ 10000000) :
 Calls Tryz.prog 110 #[v, .int .i64 n] w fun e w' => ∃ v', e = .returned v' ∧ Own 5 bv w' B v' (xs ++ enc n) ∧ Below B w w' ∧ B ≤ w'.heap.size := by
 have HP := Lib.hid (putNum_any none 0 [] n h1 h2 w (CL.nil _ _ _) (by simp))
 have htl : (enc n).length ≤ 10 := (enc_len n).2
 rw [List.nil_append] at HP
 generalize enc n = en at HP htl ⊢
 have HO := Lib.hid hown
 clear h1 h2 hown
 go_enter Tryz.func110, Tryz.ntmps110
 go_wp2_with fail
 refine HP.out.mono ?_
 rintro e w1 ⟨v1, rfl, hown1, hb1⟩
 obtain ⟨A1, c1, rfl, _, hsl1⟩ := hown1.ret
 have HS1 := Lib.hid hsl1
 have HO1 := Lib.hid (HO.out.step hb1)
 have HB1 := Lib.hid (hb1.mono hB)
 have hB1 : B ≤ w1.heap.size := by have := hb1.size; omega
 clear hown1 hb1 hsl1
 go_wp2_with (at_builtin; go_must (refine wpList_appB w1 rfl _ _ rfl B v xs en A1 c1 rfl HO1.out rfl w1.heap.size HS1.out w HB1.out hB1 (by omega) ?_); intro v2 w2 hown2 hb2 hB2)
 go_ret
 exact ⟨_, rfl, hown2, hb2, hB2⟩
theorem mAddText_any (v : Value) (xs : List UInt8) (s : ByteArray) (w : World) (B : Nat) (hown : Own 5 bv w B v xs) (hB : B ≤ w.heap.size) (hn : xs.length ≤ 10000000) (hs : s.size ≤ 10000000) :
 Calls Tryz.prog 109 #[v, .string s] w fun e w' => ∃ v', e = .returned v' ∧ Own 5 bv w' B v' (xs ++ encT s) ∧ Below B w w' ∧ B ≤ w'.heap.size := by
 have HP := Lib.hid (putText_any none 0 [] s w (CL.nil _ _ _) (by simp) (by omega))
 have htl : (encT s).length ≤ 10000010 := by have := encT_len s; omega
 rw [List.nil_append, show enc s.size ++ dl s = encT s from rfl] at HP
 generalize encT s = en at HP htl ⊢
 have HO := Lib.hid hown
 clear hs hown
 go_enter Tryz.func109, Tryz.ntmps109
 go_wp2_with fail
 refine HP.out.mono ?_
 rintro e w1 ⟨v1, rfl, hown1, hb1⟩
 obtain ⟨A1, c1, rfl, _, hsl1⟩ := hown1.ret
 have HS1 := Lib.hid hsl1
 have HO1 := Lib.hid (HO.out.step hb1)
 have HB1 := Lib.hid (hb1.mono hB)
 have hB1 : B ≤ w1.heap.size := by have := hb1.size; omega
 clear hown1 hb1 hsl1
 go_wp2_with (at_builtin; go_must (refine wpList_appB w1 rfl _ _ rfl B v xs en A1 c1 rfl HO1.out rfl w1.heap.size HS1.out w HB1.out hB1 (by omega) ?_); intro v2 w2 hown2 hb2 hB2)
 go_ret
 exact ⟨_, rfl, hown2, hb2, hB2⟩

section
variable {ops : Array Oper} {rest : List Oper} {o : Oper} {a : Act} {Q : Exit → Act → World → Prop}
/-- append of bytes; every other block stays -/
theorem wpList_appBK (wr : World) (hgd : o.guard = none) (s x : Operand) (ho : o.op = .call { callee := .builtin .append, args := #[s, x], argTypes := #[25, 25] })
 (B : Nat) (v : Value) (xs ys : List UInt8) (A : Option Addr) (c : Nat) (hown : Own 5 bv wr B v xs) (hs : a.eval s = v) (hx : a.eval x = .slice A ys.length c) (B' : Nat) (hsl : CL bv wr B' A ys) (w0 : World) (hb : Below B w0 wr) (hB : B ≤ wr.heap.size)
 (hn : xs.length + ys.length ≤ 140737488355328) (h : ∀ v' w', Own 5 bv w' B v' (xs ++ ys) → Below B w0 w' → B ≤ w'.heap.size → (∀ q, q < wr.heap.size → v.ownBlock ≠ some q → w'.heap[q]? = wr.heap[q]?) → wpList Tryz.prog ops Q rest (a.put o.dst v') w') : wpList Tryz.prog ops Q (o :: rest) a wr := by
 obtain ⟨i, hi, hz, hz1, hz2⟩ := info_parts infoU8
 refine wpList_append_src wr hgd s x 25 25 ho B 5 i (.int .u8 0) 1 1 Tryz.underlying25 hi hz hz1 hz2 rfl (by decide) v xs.length (xs.map bv) hs hown _ hx ys.length (ys.map bv) (hsl.src Tryz.underlying25 bv_one c) (by unfold maxLen; omega) (by omega) hB ?_
 intro v' w' hown' hgrow
 refine h v' w' ?_ (hb.grown hgrow hB (fun j hj => (World.ownsRow.lt hown j hj).1)) (by have := hgrow.size; omega) (fun q hq hne => ?_)
 · unfold Own
   simpa using hown'
 · obtain ⟨_, _, _, _, hk⟩ := hgrow
   exact hk q hq (Ne.symm hne)
end
/-- a list of bytes of the call's own, longer than before; every other block stays -/
def PostK (v : Value) (T : List UInt8) (B : Nat) (w : World) (e : Ending) (w' : World) : Prop := ∃ v', e = .returned v' ∧ Own 5 bv w' B v' T ∧ Below B w w' ∧ B ≤ w'.heap.size ∧ ∀ q, q < w.heap.size → v.ownBlock ≠ some q → w'.heap[q]? = w.heap[q]?
theorem mAddText_keep (v : Value) (xs : List UInt8) (s : ByteArray) (w : World) (B : Nat) (hown : Own 5 bv w B v xs) (hB : B ≤ w.heap.size) (hn : xs.length ≤ 10000000) (hs : s.size ≤ 10000000) :
 Calls Tryz.prog 109 #[v, .string s] w (PostK v (xs ++ encT s) B w) := by
 have HP := Lib.hid (putText_any none 0 [] s w (CL.nil _ _ _) (by simp) (by omega))
 have htl : (encT s).length ≤ 10000010 := by have := encT_len s; omega
 rw [List.nil_append, show enc s.size ++ dl s = encT s from rfl] at HP
 generalize encT s = en at HP htl ⊢
 have HO := Lib.hid hown
 clear hs hown
 go_enter Tryz.func109, Tryz.ntmps109
 go_wp2_with fail
 refine HP.out.mono ?_
 rintro e w1 ⟨v1, rfl, hown1, hb1⟩
 obtain ⟨A1, c1, rfl, _, hsl1⟩ := hown1.ret
 have HS1 := Lib.hid hsl1
 have HO1 := Lib.hid (HO.out.step hb1)
 have HB1 := Lib.hid (hb1.mono hB)
 have hB1 : B ≤ w1.heap.size := by have := hb1.size; omega
 have HH : Hid (∀ q, q < w.heap.size → w1.heap[q]? = w.heap[q]?) := Lib.hid (fun q hq => hb1.block q hq)
 have HZ : Hid (w.heap.size ≤ w1.heap.size) := Lib.hid hb1.size
 clear hown1 hb1 hsl1
 go_wp2_with (at_builtin; go_must (refine wpList_appBK w1 rfl _ _ rfl B v xs en A1 c1 HO1.out rfl rfl w1.heap.size HS1.out w HB1.out hB1 (by omega) ?_); intro v2 w2 hown2 hb2 hB2 hk2)
 have HK2 := Lib.hid hk2
 clear hk2
 go_ret
 exact ⟨_, rfl, hown2, hb2, hB2, fun q hq hne => (HK2.out q (Nat.lt_of_lt_of_le hq HZ.out) hne).trans (HH.out q hq)⟩

/-- how long the parts are -/
theorem encM_lens {m : Msg} (hs : m.topic.size ≤ 100000 ∧ m.payload.size ≤ 100000 ∧ m.frm.size ≤ 100000 ∧ m.props.length ≤ 20 ∧ ∀ x ∈ m.props, x.1.size ≤ 100000 ∧ x.2.size ≤ 100000) :
 (encT m.topic).length ≤ 100010 ∧ (encT m.payload).length ≤ 100010 ∧ (encT m.frm).length ≤ 100010 ∧ ∀ k, (encPs (m.props.take k)).length ≤ 5000000 := by
 obtain ⟨h1, h2, h3, h4, h5⟩ := hs
 refine ⟨by have := encT_len m.topic; omega, by have := encT_len m.payload; omega, by have := encT_len m.frm; omega, fun k => ?_⟩
 have h6 := encPs_len (m.props.take k) 100000 (fun x hx => h5 x (List.mem_of_mem_take hx))
 have h7 : (m.props.take k).length * (20 + 2 * 100000) ≤ 20 * (20 + 2 * 100000) := Nat.mul_le_mul (by rw [List.length_take]; omega) (Nat.le_refl _)
 omega
theorem flag_one (b : Bool) : ((flagsR [b] : Nat) : Int) = if b then 1 else 0 := by cases b <;> rfl

end Go.Proofs.YtdkegoaflabjoaaGreatDoor
namespace Go.Proofs.YtdkegoaflabjoaaGreatDoor
open Go.RowKit

/-- a list of bytes of the call's own, longer than before -/
def PostA (T : List UInt8) (B : Nat) (w : World) (e : Ending) (w' : World) : Prop := ∃ v', e = .returned v' ∧ Own 5 bv w' B v' T ∧ Below B w w' ∧ B ≤ w'.heap.size

theorem put_any (A0 : Option Addr) (c0 : Nat) (xs : List UInt8) (m : Msg) (A : Option Addr) (c : Nat) (w : World) (hx : CL bv w w.heap.size A0 xs) (hsl : PL w w.heap.size A m.props) (hf : m.fits) (hs : m.topic.size ≤ 100000 ∧ m.payload.size ≤ 100000 ∧ m.frm.size ≤ 100000 ∧ m.props.length ≤ 20 ∧ ∀ x ∈ m.props, x.1.size ≤ 100000 ∧ x.2.size ≤ 100000) (hn : xs.length ≤ 100000) :
 Calls Tryz.prog 82 #[.slice A0 xs.length c0, msgV m A c] w (RetB (xs ++ encM m) w) := by
 unfold msgV
 obtain ⟨l0, l1, l6, lP⟩ := encM_lens hs
 obtain ⟨hsz0, hsz1, hsz6, hsl20, hszp⟩ := hs
 have hr1 : -9223372036854775808 ≤ (if m.retain = true then (1 : Int) else 0) := by split <;> omega
 have hr2 : (if m.retain = true then (1 : Int) else 0) ≤ 9223372036854775807 := by split <;> omega
 obtain ⟨f2, f4, f5, f7⟩ := hf
 have e0 : encM m = encT m.topic ++ encT m.payload ++ enc m.level ++ enc (if m.retain = true then 1 else 0) ++ enc m.prio ++ enc m.exps ++ encT m.frm ++ enc m.seq ++ enc m.props.length ++ encPs m.props := rfl
 rw [e0]
 have n2 := (enc_len m.level).2
 have n3 := (enc_len (if m.retain = true then 1 else 0)).2
 have n4 := (enc_len m.prio).2
 have n5 := (enc_len m.exps).2
 have n7 := (enc_len m.seq).2
 have n8 := (enc_len (m.props.length : Int)).2
 have HA0 : Hid (∀ v w B, Own 5 bv w B v [] → B ≤ w.heap.size → Calls Tryz.prog 109 #[v, .string m.topic] w (PostA (encT m.topic) B w)) := Lib.hid (fun v w B h hB => by have := mAddText_any v [] m.topic w B h hB (by simp) (by omega); rwa [List.nil_append] at this)
 have t0 : (encT m.topic).length ≤ 100010 := l0
 generalize encT m.topic = T0 at HA0 t0 ⊢
 have HA1 : Hid (∀ v w B, Own 5 bv w B v T0 → B ≤ w.heap.size → Calls Tryz.prog 109 #[v, .string m.payload] w (PostA (T0 ++ encT m.payload) B w)) := Lib.hid (fun v w B h hB => mAddText_any v T0 m.payload w B h hB (by omega) (by omega))
 have t1 : (T0 ++ encT m.payload).length ≤ 200020 := by rw [List.length_append]; omega
 generalize T0 ++ encT m.payload = T1 at HA1 t1 ⊢
 have HA2 : Hid (∀ v w B, Own 5 bv w B v T1 → B ≤ w.heap.size → Calls Tryz.prog 110 #[v, .int .i64 m.level] w (PostA (T1 ++ enc m.level) B w)) := Lib.hid (fun v w B h hB => mAddNum_any v T1 m.level f2.1 f2.2 w B h hB (by omega))
 have t2 : (T1 ++ enc m.level).length ≤ 200030 := by rw [List.length_append]; omega
 generalize T1 ++ enc m.level = T2 at HA2 t2 ⊢
 have HA3 : Hid (∀ v w B, Own 5 bv w B v T2 → B ≤ w.heap.size → Calls Tryz.prog 110 #[v, .int .i64 (flagsR [m.retain] : Nat)] w (PostA (T2 ++ enc (if m.retain = true then 1 else 0)) B w)) := Lib.hid (fun v w B h hB => by rw [flag_one]; exact mAddNum_any v T2 _ hr1 hr2 w B h hB (by omega))
 have t3 : (T2 ++ enc (if m.retain = true then 1 else 0)).length ≤ 200040 := by rw [List.length_append]; omega
 generalize T2 ++ enc (if m.retain = true then 1 else 0) = T3 at HA3 t3 ⊢
 have HA4 : Hid (∀ v w B, Own 5 bv w B v T3 → B ≤ w.heap.size → Calls Tryz.prog 110 #[v, .int .i64 m.prio] w (PostA (T3 ++ enc m.prio) B w)) := Lib.hid (fun v w B h hB => mAddNum_any v T3 m.prio f4.1 f4.2 w B h hB (by omega))
 have t4 : (T3 ++ enc m.prio).length ≤ 200050 := by rw [List.length_append]; omega
 generalize T3 ++ enc m.prio = T4 at HA4 t4 ⊢
 have HA5 : Hid (∀ v w B, Own 5 bv w B v T4 → B ≤ w.heap.size → Calls Tryz.prog 110 #[v, .int .i64 m.exps] w (PostA (T4 ++ enc m.exps) B w)) := Lib.hid (fun v w B h hB => mAddNum_any v T4 m.exps f5.1 f5.2 w B h hB (by omega))
 have t5 : (T4 ++ enc m.exps).length ≤ 200060 := by rw [List.length_append]; omega
 generalize T4 ++ enc m.exps = T5 at HA5 t5 ⊢
 have HA6 : Hid (∀ v w B, Own 5 bv w B v T5 → B ≤ w.heap.size → Calls Tryz.prog 109 #[v, .string m.frm] w (PostA (T5 ++ encT m.frm) B w)) := Lib.hid (fun v w B h hB => mAddText_any v T5 m.frm w B h hB (by omega) (by omega))
 have t6 : (T5 ++ encT m.frm).length ≤ 300070 := by rw [List.length_append]; omega
 generalize T5 ++ encT m.frm = T6 at HA6 t6 ⊢
 have HA7 : Hid (∀ v w B, Own 5 bv w B v T6 → B ≤ w.heap.size → Calls Tryz.prog 110 #[v, .int .i64 m.seq] w (PostA (T6 ++ enc m.seq) B w)) := Lib.hid (fun v w B h hB => mAddNum_any v T6 m.seq f7.1 f7.2 w B h hB (by omega))
 have t7 : (T6 ++ enc m.seq).length ≤ 300080 := by rw [List.length_append]; omega
 generalize T6 ++ enc m.seq = T7 at HA7 t7 ⊢
 have HA8 : Hid (∀ v w B, Own 5 bv w B v T7 → B ≤ w.heap.size → Calls Tryz.prog 110 #[v, .int .i64 m.props.length] w (PostA (T7 ++ enc m.props.length) B w)) := Lib.hid (fun v w B h hB => mAddNum_any v T7 m.props.length (by omega) (by omega) w B h hB (by omega))
 have t8 : (T7 ++ enc (m.props.length : Int)).length ≤ 300090 := by rw [List.length_append]; omega
 generalize T7 ++ enc (m.props.length : Int) = T8 at HA8 t8 ⊢
 have HP : Hid (∀ k x, m.props[k]? = some x → ∀ v w B, Own 5 bv w B v (T8 ++ encPs (m.props.take k)) → B ≤ w.heap.size → Calls Tryz.prog 109 #[v, .string x.1] w (PostK v (T8 ++ encPs (m.props.take k) ++ encT x.1) B w)) := Lib.hid (fun k x hk v w B h hB => mAddText_keep v _ x.1 w B h hB (by have := lP k; rw [List.length_append]; omega) (by have := hszp x (List.mem_of_getElem? hk); omega))
 have HQ : Hid (∀ k x, m.props[k]? = some x → ∀ v w B, Own 5 bv w B v (T8 ++ encPs (m.props.take k) ++ encT x.1) → B ≤ w.heap.size → Calls Tryz.prog 109 #[v, .string x.2] w (PostA (T8 ++ encPs (m.props.take (k + 1))) B w)) := Lib.hid (fun k x hk v w B h hB => by
  have h1 := lP k
  have h2 := hszp x (List.mem_of_getElem? hk)
  have h3 := encT_len x.1
  have := mAddText_any v _ x.2 w B h hB (by rw [List.length_append, List.length_append]; omega) (by omega)
  rw [encPs_succ hk, ← List.append_assoc, ← List.append_assoc]
  exact this)
 have HZ : Hid (T8 ++ encPs (m.props.take m.props.length) = T8 ++ encPs m.props) := Lib.hid (by rw [List.take_length])
 have HZ0 : Hid (T8 ++ encPs (m.props.take 0) = T8) := Lib.hid (by simp [encPs])
 have HLl : Hid (∀ k, (T8 ++ encPs (m.props.take k)).length ≤ 6000000) := Lib.hid (fun k => by have := lP k; rw [List.length_append]; omega)
 rw [← HZ.out]
 obtain ⟨TK, hTK⟩ : ∃ TK : Nat → List UInt8, TK = fun k => T8 ++ encPs (m.props.take k) := ⟨_, rfl⟩
 have hTK' : ∀ k, T8 ++ encPs (m.props.take k) = TK k := fun k => by rw [hTK]
 simp only [hTK'] at HP HQ HZ0 HLl ⊢
 have hbn : Below w.heap.size w (w.alloc (.cells #[.string m.topic, .string m.payload, .int .i64 m.level, .bool m.retain, .int .i64 m.prio, .int .i64 m.exps, .string m.frm, .int .i64 m.seq, .slice A m.props.length c] 31)) := (Below.refl _ _).alloc (Nat.le_refl _) _
 have HB0 := Lib.hid hbn
 have HX := Lib.hid hx
 have HS := Lib.hid hsl
 have H20 := Lib.hid hsl20
 clear hTK hTK' HZ hbn hx hsl hsz0 hsz1 hsz6 hszp hsl20 hr1 hr2 f2 f4 f5 f7 e0 n2 n3 n4 n5 n7 n8 l0 l1 l6 lP t0 t1 t2 t3 t4 t5 t6 t7 t8
 go_enter Tryz.func82, Tryz.ntmps82
 go_wp2_with fail
 refine (HA0.out (.slice none 0 0) (w.alloc (.cells #[.string m.topic, .string m.payload, .int .i64 m.level, .bool m.retain, .int .i64 m.prio, .int .i64 m.exps, .string m.frm, .int .i64 m.seq, .slice A m.props.length c] 31)) (w.alloc (.cells #[.string m.topic, .string m.payload, .int .i64 m.level, .bool m.retain, .int .i64 m.prio, .int .i64 m.exps, .string m.frm, .int .i64 m.seq, .slice A m.props.length c] 31)).heap.size (Own.nil _ _) (Nat.le_refl _)).mono ?_
 rintro e w1 ⟨v1, rfl, hown, hb, hsz⟩
 obtain ⟨w0, hw0⟩ : ∃ w0, w0 = (w.alloc (.cells #[.string m.topic, .string m.payload, .int .i64 m.level, .bool m.retain, .int .i64 m.prio, .int .i64 m.exps, .string m.frm, .int .i64 m.seq, .slice A m.props.length c] 31)) := ⟨_, rfl⟩
 have HBX : Hid (∀ wx, Below w0.heap.size w0 wx → wx.cell? ⟨w.heap.size, 0, none⟩ = some (.string m.topic) ∧ wx.cell? ⟨w.heap.size, 1, none⟩ = some (.string m.payload) ∧ wx.cell? ⟨w.heap.size, 2, none⟩ = some (.int .i64 m.level) ∧ wx.cell? ⟨w.heap.size, 3, none⟩ = some (.bool m.retain) ∧ wx.cell? ⟨w.heap.size, 4, none⟩ = some (.int .i64 m.prio) ∧ wx.cell? ⟨w.heap.size, 5, none⟩ = some (.int .i64 m.exps) ∧ wx.cell? ⟨w.heap.size, 6, none⟩ = some (.string m.frm) ∧ wx.cell? ⟨w.heap.size, 7, none⟩ = some (.int .i64 m.seq) ∧ wx.cell? ⟨w.heap.size, 8, none⟩ = some (.slice A m.props.length c)) := Lib.hid (fun wx h => by rw [hw0] at h; exact box_msg w _ _ _ _ _ _ _ _ _ _ wx h)
 rw [← hw0] at hown hb hsz HB0
 have HO1 := Lib.hid hown
 have HB1 := Lib.hid hb
 clear hown hb hsz hw0
 obtain ⟨k0, k1, k2, k3, k4, k5, k6, k7, k8⟩ := HBX.out w1 HB1.out
 go_wp2_with fail
 refine (HA1.out v1 w1 w0.heap.size HO1.out HB1.out.size).mono ?_
 rintro e w2 ⟨v2, rfl, hown, hb, hsz⟩
 have HO2 := Lib.hid hown
 have HB2 := Lib.hid (HB1.out.trans hb)
 clear hown hb hsz HB1 HO1 k0 k1 k2 k3 k4 k5 k6 k7 k8
 obtain ⟨k0, k1, k2, k3, k4, k5, k6, k7, k8⟩ := HBX.out w2 HB2.out
 go_wp2_with fail
 refine (HA2.out v2 w2 w0.heap.size HO2.out HB2.out.size).mono ?_
 rintro e w3 ⟨v3, rfl, hown, hb, hsz⟩
 have HO3 := Lib.hid hown
 have HB3 := Lib.hid (HB2.out.trans hb)
 clear hown hb hsz HB2 HO2 k0 k1 k2 k3 k4 k5 k6 k7 k8
 obtain ⟨k0, k1, k2, k3, k4, k5, k6, k7, k8⟩ := HBX.out w3 HB3.out
 go_wp2_with fail
 refine (flags_any (some ⟨w3.heap.size, 0, none⟩) 1 [m.retain] _ _ (CL.new (f := Value.bool) (t := 4) (xs := [m.retain])) (by simp) (by simp)).mono ?_
 rintro e wz ⟨rfl, rfl⟩
 have HB3' : Hid (Below w0.heap.size w0 (w3.alloc (.cells #[.bool m.retain] 4))) := Lib.hid (HB3.out.alloc HB3.out.size _)
 go_wp2_with fail
 refine (HA3.out v3 (w3.alloc (.cells #[.bool m.retain] 4)) w0.heap.size (HO3.out.alloc _) HB3'.out.size).mono ?_
 rintro e w4 ⟨v4, rfl, hown, hb, hsz⟩
 have HO4 := Lib.hid hown
 have HB4 := Lib.hid (HB3'.out.trans hb)
 clear hown hb hsz HB3 HB3' HO3 k0 k1 k2 k3 k4 k5 k6 k7 k8
 obtain ⟨k0, k1, k2, k3, k4, k5, k6, k7, k8⟩ := HBX.out w4 HB4.out
 go_wp2_with fail
 refine (HA4.out v4 w4 w0.heap.size HO4.out HB4.out.size).mono ?_
 rintro e w5 ⟨v5, rfl, hown, hb, hsz⟩
 have HO5 := Lib.hid hown
 have HB5 := Lib.hid (HB4.out.trans hb)
 clear hown hb hsz HB4 HO4 k0 k1 k2 k3 k4 k5 k6 k7 k8
 obtain ⟨k0, k1, k2, k3, k4, k5, k6, k7, k8⟩ := HBX.out w5 HB5.out
 go_wp2_with fail
 refine (HA5.out v5 w5 w0.heap.size HO5.out HB5.out.size).mono ?_
 rintro e w6 ⟨v6, rfl, hown, hb, hsz⟩
 have HO6 := Lib.hid hown
 have HB6 := Lib.hid (HB5.out.trans hb)
 clear hown hb hsz HB5 HO5 k0 k1 k2 k3 k4 k5 k6 k7 k8
 obtain ⟨k0, k1, k2, k3, k4, k5, k6, k7, k8⟩ := HBX.out w6 HB6.out
 go_wp2_with fail
 refine (HA6.out v6 w6 w0.heap.size HO6.out HB6.out.size).mono ?_
 rintro e w7 ⟨v7, rfl, hown, hb, hsz⟩
 have HO7 := Lib.hid hown
 have HB7 := Lib.hid (HB6.out.trans hb)
 clear hown hb hsz HB6 HO6 k0 k1 k2 k3 k4 k5 k6 k7 k8
 obtain ⟨k0, k1, k2, k3, k4, k5, k6, k7, k8⟩ := HBX.out w7 HB7.out
 go_wp2_with fail
 refine (HA7.out v7 w7 w0.heap.size HO7.out HB7.out.size).mono ?_
 rintro e w8 ⟨v8, rfl, hown, hb, hsz⟩
 have HO8 := Lib.hid hown
 have HB8 := Lib.hid (HB7.out.trans hb)
 clear hown hb hsz HB7 HO7 k0 k1 k2 k3 k4 k5 k6 k7 k8
 obtain ⟨k0, k1, k2, k3, k4, k5, k6, k7, k8⟩ := HBX.out w8 HB8.out
 go_wp2_with fail
 refine (HA8.out v8 w8 w0.heap.size HO8.out HB8.out.size).mono ?_
 rintro e w9 ⟨v9, rfl, hown, hb, hsz⟩
 have HO9 := Lib.hid hown
 have HB9 := Lib.hid (HB8.out.trans hb)
 clear hown hb hsz HB8 HO8 k0 k1 k2 k3 k4 k5 k6 k7 k8
 obtain ⟨k0, k1, k2, k3, k4, k5, k6, k7, k8⟩ := HBX.out w9 HB9.out
 have hl20 : m.props.length ≤ 20 := H20.out
 go_wp2
 go_loopg [5, 50] m.props.length (fun g u i wr => ∃ k : Nat, k + g = m.props.length ∧ i = .int .i64 k ∧ Own 5 bv wr w0.heap.size u (TK k) ∧ Below w0.heap.size w0 wr)
 case atStart => exact ⟨0, by omega, rfl, by rw [HZ0.out]; exact HO9.out, HB9.out⟩
 case round =>
  obtain ⟨k, hkg, rfl, hown, hb⟩ := hrel
  have HB := Lib.hid hb
  have HG := Lib.hid hkg
  have HO := Lib.hid hown
  clear hown hb k0 k1 k2 k3 k4 k5 k6 k7 k8
  cases gk with
  | zero =>
    obtain rfl : k = m.props.length := by omega
    obtain ⟨A9, c9, hv, _, hsl9⟩ := HO.out.ret
    subst hv
    have HS9 := Lib.hid hsl9
    have HL9 := Lib.hid (HLl.out m.props.length)
    have HBW := Lib.hid (stepB HB0.out HB.out)
    have HX9 := Lib.hid (HX.out.step HBW.out)
    obtain ⟨TT, hTT⟩ : ∃ TT, TT = TK m.props.length := ⟨_, rfl⟩
    have HTT := Lib.hid hTT
    rw [← hTT] at HS9 HL9
    have htl : (TK m.props.length).length = TT.length := by rw [hTT]
    rw [htl]
    clear htl hTT
    clear hkg hsl9 HO HA1 HA2 HA3 HA4 HA5 HA6 HA7 HA8 HA0 HP HQ HZ0 HLl HBX
    go_wp2_with fail
    refine (concat_any wr.heap.size 0 A0 A9 c0 c9 xs TT (wr.alloc (.cells #[.slice A0 xs.length c0, .slice A9 TT.length c9] 25)) (by simp) (by simp) (by simp) (HX9.out.step ((Below.refl _ _).alloc (Nat.le_refl _) _)) (HS9.out.step ((Below.refl _ _).alloc (Nat.le_refl _) _)) (by have := HL9.out; omega)).mono ?_
    rintro e w10 ⟨v10, rfl, hown10, hb10⟩
    have HB10 := Lib.hid ((HBW.out.alloc HBW.out.size (.cells #[.slice A0 xs.length c0, .slice A9 TT.length c9] 25)).trans (hb10.mono (by have := HBW.out.size; simp; omega)))
    have HO10 := Lib.hid (hown10.weak (by have := HBW.out.size; simp; omega : w.heap.size ≤ _))
    clear hown10 hb10
    go_wp2
    go_ret
    exact ⟨_, rfl, by rw [← HTT.out]; exact HO10.out, HB10.out⟩
  | succ g =>
    have hlt : k < m.props.length := by omega
    have e3 : decide ((k : Int) < (m.props.length : Int)) = true := decide_eq_true (by omega)
    obtain ⟨x, hx⟩ : ∃ x, m.props[k]? = some x := ⟨_, List.getElem?_eq_getElem hlt⟩
    obtain ⟨b, o, hA, hbB, kk, kv⟩ := PL.at_ (HS.out.step (stepB HB0.out HB.out)) hx
    subst hA
    have j1 : (0 : Int) ≤ (k : Int) := by omega
    have j2 : (k : Int) < (m.props.length : Int) := by omega
    have HX1 := Lib.hid hx
    have HBa : Hid (Below w0.heap.size w0 (wr.alloc (.cells #[.string x.1, .string x.2] 114))) := Lib.hid (HB.out.alloc HB.out.size _)
    clear hx hkg
    go_wp2_with fail
    refine (HP.out k x HX1.out u5 (wr.alloc (.cells #[.string x.1, .string x.2] 114)) w0.heap.size (HO.out.alloc _) HBa.out.size).mono ?_
    rintro e wa ⟨va, rfl, hown, hb, hsz, hkeep⟩
    have HOa := Lib.hid hown
    have HBb := Lib.hid (HBa.out.trans hb)
    have hbx : wa.cell? ⟨wr.heap.size, 1, none⟩ = some (.string x.2) := by
     have h1 := hkeep wr.heap.size (by simp) (fun e => by have := World.ownsRow.lt HO.out wr.heap.size e; omega)
     unfold World.cell?
     rw [h1, show (wr.alloc (.cells #[.string x.1, .string x.2] 114)).heap[wr.heap.size]? = _ from heap_alloc_new wr _]
     rfl
    clear hown hb hsz hkeep
    go_wp2_with fail
    refine (HQ.out k x HX1.out va wa w0.heap.size HOa.out HBb.out.size).mono ?_
    rintro e wb ⟨vb, rfl, hown, hb, hsz⟩
    have HOb := Lib.hid hown
    have HBc := Lib.hid (HBb.out.trans hb)
    clear hown hb hsz
    go_wp2
    go_roundg g
    case measure => omega
    case rel => exact ⟨k + 1, by have := HG.out; omega, by go_num, HOb.out, HBc.out⟩

end Go.Proofs.YtdkegoaflabjoaaGreatDoor
