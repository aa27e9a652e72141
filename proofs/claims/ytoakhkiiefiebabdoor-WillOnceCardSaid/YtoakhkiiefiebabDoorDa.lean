/-
  Lists of wills that wait, as plain data and in memory, and what clone of will answers: the wills, in memory of their own. Conditions: the lists read as data; few wills, with few properties.
-/
import Derived.Test.YtoakhkiiefiebabDoorLe
import Derived.Test.YtoakhkiiefiebabDoorSame
namespace Go.Proofs.YtoakhkiiefiebabDoor
open Go.RowKit
open S2 (BK Put)

/-- a will that waits: whose, when, what -/
structure Du where
  cl : ByteArray
  tm : Int
  m : Msg
instance : DecidableEq Du := fun a b => by
  cases a; cases b
  simp only [Du.mk.injEq]
  exact inferInstance
/-- the same in a list, and where its properties lie -/
structure DE where
  d : Du
  a : Option Addr
  c : Nat
def gD (x : DE) : List Value := [.string x.d.cl, .int .i64 x.d.tm, .string x.d.m.topic, .string x.d.m.payload, .int .i64 x.d.m.level, .bool x.d.m.retain, .int .i64 x.d.m.prio, .int .i64 x.d.m.exps, .string x.d.m.frm, .int .i64 x.d.m.seq, .slice x.a x.d.m.props.length x.c]
def dV (x : DE) : Value := .agg (gD x).toArray
theorem gD_len (x : DE) : (gD x).length = 11 := rfl
theorem gD_one (x : DE) : ∀ u ∈ gD x, u.oneCell' = true := ones rfl
theorem gD_msg (x : DE) : ((gD x).drop 2).take 9 = msgC x.d.m x.a x.c := rfl
abbrev dps (x : DE) : List PR := x.d.m.props
abbrev DI (w : World) (B : Nat) (A : Option Addr) (xs : List DE) : Prop := LI gD 11 DE.a dps w B A xs
abbrev OwnD (w : World) (B : Nat) (v : Value) (xs : List DE) : Prop := OwnG 45 gD 11 w B v xs
abbrev LstD (B : Nat) (w : World) (v : Value) (xs : List DE) : Prop := Lst 45 gD 11 DE.a dps B w v xs
abbrev RetLD (L : List Du) (W : World) (E : Ending) (w' : World) : Prop := RetLs 45 gD 11 DE.a dps DE.d L W E w'
def Du.zero : Du := ⟨⟨#[]⟩, 0, Msg.zero⟩
def DE.zero : DE := ⟨Du.zero, none, 0⟩
theorem dueInfo : (Tryd.prog.info? 45).map (fun i => (i.zero, i.size, i.bytes)) = some (some (.agg #[.string ByteArray.empty, .int .i64 0, .string ByteArray.empty, .string ByteArray.empty, .int .i64 0, .bool false, .int .i64 0, .int .i64 0, .string ByteArray.empty, .int .i64 0, .slice none 0 0]), 11, 136) := by kernel_rfl
theorem dueSize : (Tryd.prog.info? 45).map (·.size) = some 11 := by kernel_rfl
/-- an element, and its message, where the list has it -/
theorem load_due {w : World} {b o : Nat} {x : DE} (hc : ∀ i v, (gD x)[i]? = some v → w.cell? ⟨b, o + i, none⟩ = some v) : (loadVar 45 ⟨b, o, none⟩).run Tryd.prog w = .ok (dV x) w :=
  run_load_cells w b o (gD x) 45 _ hc Tryd.underlying45 rfl dueSize
theorem load_due_msg {w : World} {b o : Nat} {x : DE} (hc : ∀ i v, (gD x)[i]? = some v → w.cell? ⟨b, o + i, none⟩ = some v) : (loadVar 27 ⟨b, o + 2, none⟩).run Tryd.prog w = .ok (msgV x.d.m x.a x.c) w :=
  run_load_cells w b (o + 2) (msgC x.d.m x.a x.c) 27 _ (fun i v hv => by
    rw [Nat.add_assoc]
    refine hc (2 + i) v ?_
    rw [← gD_msg, List.getElem?_take] at hv
    split at hv
    · rwa [List.getElem?_drop] at hv
    · cases hv) Tryd.underlying27 rfl msgSize

set_option maxHeartbeats 1000000 in
theorem cloneD_any (A : Option Addr) (c : Nat) (xs : List DE) (w : World) (hsl : GL gD 11 w w.heap.size A xs) (hn : xs.length ≤ 100000) :
    Calls Tryd.prog 34 #[.slice A xs.length c] w fun e w' => ∃ v, e = .returned v ∧ OwnD w' w.heap.size v xs ∧ Below w.heap.size w w' := by
  have q22 : ∀ (w : World) (a : Option Addr) (n c n' c' : Nat), (binOp .eql 23 (.slice a n c) (.slice none n' c')).run Tryd.prog w = .ok (.bool a.isNone) w := fun w a n c n' c' => Lib.run_eql_slice_nil w _ _ a n c n' c' Tryd.underlying23
  cases A with
  | none =>
    have h0 : xs = [] := by
      rcases Nat.eq_zero_or_pos xs.length with h | h
      · exact List.eq_nil_of_length_eq_zero h
      · obtain ⟨b, o, e, _⟩ := hsl h; cases e
    subst h0
    clear hsl hn
    go_enter Tryd.func34, Tryd.ntmps34
    go_wp2
    go_ret
    exact ⟨_, rfl, OwnG.nil _ _, Below.refl _ _⟩
  | some a =>
    have hsl2 := hsl.step ((Below.refl _ _).alloc (Nat.le_refl _) (.cells #[] 45))
    have hb0 := (Below.refl w.heap.size w).alloc (Nat.le_refl _) (.cells #[] 45)
    have HS := Lib.hid hsl2
    clear hsl hsl2
    go_enter Tryd.func34, Tryd.ntmps34
    go_wp2_with (at_builtin; go_must (refine wpList_appG (g := gD) (k := 11) (e := 45) (by decide) _ rfl _ _ 23 23 rfl (.agg #[.string ByteArray.empty, .int .i64 0, .string ByteArray.empty, .string ByteArray.empty, .int .i64 0, .bool false, .int .i64 0, .int .i64 0, .string ByteArray.empty, .int .i64 0, .slice none 0 0]) 136 Tryd.underlying23 dueInfo rfl (by decide) w.heap.size _ [] xs rfl (OwnG.made w 0 #[] w.heap.size (Nat.le_refl _) (by decide) rfl) _ rfl (GL.src gD_len gD_one HS.out Tryd.underlying23 c) w hb0 (by simp) (by simp; omega) ?_); intro v' w' hown' hb' hsz')
    go_ret
    exact ⟨_, rfl, hown', hb'⟩

theorem S2.Put.of_set {w : World} {g o : Nat} {u : Value} {T : TypeId} {vs : List Value} (_h : BK T w g vs) : Put g w (w.setCell ⟨g, o, none⟩ u) :=
  ⟨fun hM hne => hM.other hne _, fun hb hg => hb.setCell (p := ⟨g, o, none⟩) hg _, by simp, fun {p} hp => S2.set_other _ _ _ _ _ hp⟩
set_option maxRecDepth 20000 in
set_option maxHeartbeats 4000000 in
theorem dClone_any (A : Option Addr) (c : Nat) (xs : List DE) (w : World) (hsl : DI w w.heap.size A xs) (hn : xs.length ≤ 100000) (hp : ∀ x ∈ xs, x.d.m.props.length ≤ 4398046511104) :
    Calls Tryd.prog 22 #[.slice A xs.length c] w (RetLD (xs.map DE.d) w) := by
  have HC := Lib.hid (cloneD_any A c xs w hsl.1 hn)
  have HM := Lib.hid (fun (m : Msg) a c w1 h hl => cloneP_any a c m.props w1 h hl)
  have HS := Lib.hid hsl
  have HP := Lib.hid hp
  clear hsl hp
  go_enter Tryd.func22, Tryd.ntmps22
  go_wp2_with fail
  refine HC.out.mono ?_
  rintro e w1 ⟨v1, rfl, hown1, hb1⟩
  have HB1 := Lib.hid hb1
  clear hb1 HC
  rcases own_rowG hown1 with ⟨rfl, rfl⟩ | ⟨g, cap, sp, rfl, hbg, hg, hnc, hcm, hcs⟩
  · clear hown1
    go_wp2_with fail
    go_loopg [9] 0 (fun g v wr => g = 0 ∧ v = .int .i64 0 ∧ wr = w1)
    case atStart => exact ⟨rfl, rfl, rfl⟩
    case round =>
      obtain ⟨rfl, rfl, rfl⟩ := hrel
      go_wp2
      go_ret
      exact ⟨_, [], rfl, rfl, Lst.nil, HB1.out⟩
  · have HG := Lib.hid (And.intro hbg (And.intro hnc (And.intro hcm hcs)))
    have HGL := Lib.hid hg.lt
    have H0 : Hid (CIL 45 gD DE.a dps DE.d xs w w1 g sp 0 w1 xs) := Lib.hid (CIL.zero HB1.out hg)
    clear hown1 hbg hg hnc hcm hcs
    go_wp2_with fail
    go_loopg [9] xs.length (fun gk v wr => ∃ (k : Nat) (ys : List DE), k + gk = xs.length ∧ v = .int .i64 k ∧ CIL 45 gD DE.a dps DE.d xs w w1 g sp k wr ys)
    case atStart => exact ⟨0, xs, by omega, rfl, H0.out⟩
    case round =>
      obtain ⟨k, ys, hkg, rfl, hci⟩ := hrel
      have HCI := Lib.hid hci
      have HK := Lib.hid hkg
      clear hci H0
      cases gk with
      | zero =>
        obtain rfl : k = xs.length := by omega
        clear hkg
        go_wp2
        go_ret
        obtain ⟨hbg, hnc, hcm, hcs⟩ := HG.out
        obtain ⟨r1, r2, r3⟩ := HCI.out.done gD_len hbg HGL.out hnc hcm hcs
        exact ⟨_, ys, rfl, r1, r2, r3⟩
      | succ gk =>
        have hlt : k < xs.length := by omega
        have hl := HCI.out.len
        have e3 : decide ((k : Int) < (xs.length : Int)) = true := decide_eq_true (by omega)
        obtain ⟨y, hy⟩ : ∃ y, ys[k]? = some y := ⟨_, List.getElem?_eq_getElem (by omega)⟩
        have hxy : xs[k]? = some y := by rw [← HCI.out.old k (Nat.le_refl _)]; exact hy
        have d10 : wr.cell? ⟨g, k * 11 + 2 + 8, none⟩ = some (.slice y.a y.d.m.props.length y.c) := row_atG gD_len HCI.out.row hy 10 _ rfl
        have hpl : PL wr wr.heap.size y.a y.d.m.props := ((HS.out.2 y (List.mem_of_getElem? hxy)).below HCI.out.b0).more HCI.out.b0.size
        have hcall := HM.out y.d.m y.a y.c wr hpl (HP.out y (List.mem_of_getElem? hxy))
        have HCA := Lib.hid hcall
        have HY := Lib.hid hy
        have j1 : (0 : Int) ≤ (k : Int) := by omega
        have j2 : (k : Int) < (xs.length : Int) := by omega
        clear hcall hy hxy hpl hl hkg
        go_wp2_with fail
        refine HCA.out.mono ?_
        rintro e w2 ⟨v2, rfl, hown2, hb2⟩
        obtain ⟨a2, c2, hv2, _, hnew, hgl⟩ := hown2.retB gP_len
        subst hv2
        have hrow2 : BK 45 w2 g (ys.flatMap gD ++ sp) := HCI.out.row.step hb2
        have HROW := Lib.hid hrow2
        have HPL2 : Hid (PL w2 w2.heap.size a2 y.d.m.props) := Lib.hid (hgl w2 (Nat.le_refl _) (fun _ _ => rfl))
        have HNEW := Lib.hid hnew
        have HB2 := Lib.hid hb2
        have d11 := hrow2.cell (k * 11 + 2 + 8) (show _ = some (Value.slice y.a y.d.m.props.length y.c) from by
          have hk2 : k < ys.length := (List.getElem?_eq_some_iff.1 HY.out).1
          have : k * 11 + 11 ≤ ys.length * 11 := by rw [← Nat.succ_mul]; exact Nat.mul_le_mul hk2 (Nat.le_refl _)
          rw [List.getElem?_append_left (by rw [flat_len gD_len]; omega)]
          exact flat_at gD_len ys k y 10 HY.out (by decide))
        have f11 := hrow2.free (k * 11 + 2 + 8)
        have hlt2 := hrow2.lt
        clear hrow2 hown2 hb2 hnew hgl HCA d10
        go_upto_region 6 with fail
        refine name_world (C := fun w3 => Code.wp _ _ _ _ w3) (w2.setCell ⟨g, k * 11 + 2 + 8, none⟩ (.slice a2 y.d.m.props.length c2)) ?_
        intro w3 hw3
        have P3 : Hid (Put g w2 w3) := Lib.hid (by rw [hw3]; exact S2.Put.of_set HROW.out)
        have M3 : Hid (BK 45 w3 g ((ys.flatMap gD ++ sp).set (k * 11 + 10) (.slice a2 y.d.m.props.length c2))) := Lib.hid (by rw [hw3]; exact HROW.out.set _ _)
        clear hw3 d11 f11 hlt2
        go_wp2_with fail
        go_roundg gk
        case measure => omega
        case rel =>
          obtain ⟨hbg, hnc, hcm, hcs⟩ := HG.out
          have hput := set_atG (g := gD) gD_len HY.out ⟨y.d, a2, c2⟩ 10 (.slice a2 y.d.m.props.length c2) sp rfl (by decide)
          exact ⟨k + 1, ys.set k ⟨y.d, a2, c2⟩, by have := HK.out; omega, by go_num, HCI.out.succ HY.out rfl HPL2.out HNEW.out HB2.out P3.out (by rw [← hput]; exact M3.out) hbg HGL.out⟩
end Go.Proofs.YtoakhkiiefiebabDoor
