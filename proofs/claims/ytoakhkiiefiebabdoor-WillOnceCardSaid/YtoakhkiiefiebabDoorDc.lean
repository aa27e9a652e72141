/-
  What Check and Next of will and of brokerref18 answer. Conditions: the wills read as data; texts fit; the library's bound on short texts holds a number.
-/
import Derived.Test.YtoakhkiiefiebabDoorDb
import Derived.Test.YtoakhkiiefiebabDoorCheck
namespace Go.Proofs.YtoakhkiiefiebabDoor
open Go.RowKit
open S2 (BK Put)

abbrev wiC (s : Bool) (d : Int) (m : Msg) (a : Option Addr) (c : Nat) : List Value := [.bool s, .int .i64 d, .string m.topic, .string m.payload, .int .i64 m.level, .bool m.retain, .int .i64 m.prio, .int .i64 m.exps, .string m.frm, .int .i64 m.seq, .slice a m.props.length c]
abbrev wiV (s : Bool) (d : Int) (m : Msg) (a : Option Addr) (c : Nat) : Value := .agg #[.bool s, .int .i64 d, .string m.topic, .string m.payload, .int .i64 m.level, .bool m.retain, .int .i64 m.prio, .int .i64 m.exps, .string m.frm, .int .i64 m.seq, .slice a m.props.length c]
theorem wiC_msg (s : Bool) (d : Int) (m : Msg) (a : Option Addr) (c : Nat) : ((wiC s d m a c).drop 2).take 9 = msgC m a c := rfl
theorem wiSize : (Tryd.prog.info? 29).map (·.size) = some 11 := by kernel_rfl
/-- the message of a will in a block of its own -/
theorem load_wi_msg {w : World} {g : Nat} {s : Bool} {d : Int} {m : Msg} {a : Option Addr} {c : Nat} (h : BK 29 w g (wiC s d m a c)) : (loadVar 27 ⟨g, 2, none⟩).run Tryd.prog w = .ok (msgV m a c) w :=
  run_load_cells w g 2 (msgC m a c) 27 _ (fun i v hv => by
    refine h.cell (2 + i) ?_
    rw [← wiC_msg s d, List.getElem?_take] at hv
    split at hv
    · rwa [List.getElem?_drop] at hv
    · cases hv) Tryd.underlying27 rfl msgSize
/-- the first error of a will -/
def wchkR (s : Bool) (d : Int) (m : Msg) : Int := if s = false then (if d = 0 ∧ m = Msg.zero then 0 else 28) else if d < 0 ∨ 1099511627776 < d then 1 else (checkR m : Int)
theorem wchk_f {d : Int} {m : Msg} : wchkR false d m = if d = 0 ∧ m = Msg.zero then 0 else 28 := rfl
theorem wchk_t {d : Int} {m : Msg} : wchkR true d m = if d < 0 ∨ 1099511627776 < d then 1 else (checkR m : Int) := rfl
theorem zeroV : msgV Msg.zero none 0 = .agg #[.string ByteArray.empty, .string ByteArray.empty, .int .i64 0, .bool false, .int .i64 0, .int .i64 0, .string ByteArray.empty, .int .i64 0, .slice none 0 0] := rfl
theorem decide_gt {a b : Int} : decide (a > b) = decide (b < a) := rfl

set_option maxRecDepth 20000 in
set_option maxHeartbeats 4000000 in
theorem wCheck_any (s : Bool) (d : Int) (m : Msg) (a : Option Addr) (c : Nat) (w : World) (hok : S1.Okw w) (hsl : PL w w.heap.size a m.props) (hn : m.props.length ≤ 4398046511104) :
    Calls Tryd.prog 26 #[wiV s d m a c] w fun e w' => e = .returned (.int .i64 (wchkR s d m)) ∧ Below w.heap.size w w' := by
  have HSM := Lib.hid (fun w1 h1 h2 => same_any m Msg.zero a none c 0 w1 h1 h2 (by omega))
  have HCK := Lib.hid (fun w1 h h1 => check_any m a c w1 h h1)
  have HO := Lib.hid hok
  have HM := Lib.hid hsl
  obtain ⟨R, hR⟩ : ∃ R, wchkR s d m = R := ⟨_, rfl⟩
  have HR := Lib.hid hR
  rw [hR]
  clear hR
  obtain ⟨bE, hbE⟩ : ∃ b, sameM m Msg.zero = b := ⟨_, rfl⟩
  rw [hbE, zeroV] at HSM
  have HBE := Lib.hid hbE
  clear hsl hbE hok
  unfold msgV at HSM HCK
  go_enter Tryd.func26, Tryd.ntmps26
  go_upto_region 1 with fail
  refine name_world (C := fun w1 => Code.wp _ _ _ _ w1) (w.alloc (.cells (wiC s d m a c).toArray 29)) ?_
  intro w1 hw1
  have hb1 : Below w.heap.size w w1 := by rw [hw1]; exact S2.below_new w _
  have V_w1 : Hid (BK 29 w1 w.heap.size (wiC s d m a c)) := Lib.hid (by rw [hw1]; exact BK.new w _ _)
  have B_w1 := Lib.hid hb1
  have P_w1 : Hid (PL w1 w1.heap.size a m.props) := Lib.hid (GL.step HM.out hb1)
  have O_w1 := Lib.hid (HO.out.step hb1)
  clear hw1 hb1
  have d0 := V_w1.out.cell 0 rfl
  have d1 := V_w1.out.cell 1 rfl
  have HLM := Lib.hid (load_wi_msg V_w1.out)
  unfold msgV at HLM
  cases s with
  | false =>
    by_cases hd : d = 0
    · have q1 : (d == 0) = true := by simp [hd]
      have q1' : (d != 0) = false := by simp [hd]
      go_wp2_with first
        | (refine wpList_load_v (by rfl) 27 _ rfl ⟨w.heap.size, 2, none⟩ (by first | rfl | go_simp) _ HLM.out ?_)
      refine (HSM.out w1 P_w1.out (GL.nil _ _ _)).mono ?_
      rintro e w2 ⟨rfl, hb⟩
      have B_w2 := Lib.hid (stepB B_w1.out hb)
      have d2 := (V_w1.out.step hb).cell 0 rfl
      have d3 := (V_w1.out.step hb).cell 1 rfl
      clear hb d0 d1
      cases bE with
      | true =>
        obtain rfl : R = 0 := by rw [← HR.out, wchk_f, if_pos ⟨hd, of_decide_eq_true HBE.out⟩]
        clear hd q1 q1'
        go_wp2
        go_ret
        exact ⟨rfl, B_w2.out⟩
      | false =>
        obtain rfl : R = 28 := by rw [← HR.out, wchk_f, if_neg (fun h => of_decide_eq_false HBE.out h.2)]
        clear hd q1 q1'
        go_wp2
        go_ret
        exact ⟨rfl, B_w2.out⟩
    · have q1 : (d == 0) = false := by simp [hd]
      have q1' : (d != 0) = true := by simp [hd]
      obtain rfl : R = 28 := by rw [← HR.out, wchk_f, if_neg (fun h => hd h.1)]
      clear hd
      go_wp2
      go_ret
      exact ⟨rfl, B_w1.out⟩
  | true =>
    by_cases h1 : d < 0
    · have q1 : decide (d < 0) = true := decide_eq_true h1
      obtain rfl : R = 1 := by rw [← HR.out, wchk_t, if_pos (Or.inl h1)]
      clear h1
      go_wp2
      go_ret
      exact ⟨rfl, B_w1.out⟩
    have q1 : decide (d < 0) = false := decide_eq_false h1
    by_cases h2 : 1099511627776 < d
    · have q2 : decide ((1099511627776 : Int) < d) = true := decide_eq_true h2
      obtain rfl : R = 1 := by rw [← HR.out, wchk_t, if_pos (Or.inr h2)]
      clear h1 h2
      go_wp2
      go_ret
      exact ⟨rfl, B_w1.out⟩
    have q2 : decide ((1099511627776 : Int) < d) = false := decide_eq_false h2
    obtain rfl : R = (checkR m : Int) := by rw [← HR.out, wchk_t, if_neg (fun h => h.elim h1 h2)]
    clear h1 h2
    go_wp2_with first
      | (refine wpList_load_v (by rfl) 27 _ rfl ⟨w.heap.size, 2, none⟩ (by first | rfl | go_simp) _ HLM.out ?_)
    refine (HCK.out w1 O_w1.out P_w1.out).mono ?_
    rintro e w2 ⟨rfl, hb⟩
    have B_w2 := Lib.hid (stepB B_w1.out hb)
    clear hb
    go_wp2
    go_ret
    exact ⟨rfl, B_w2.out⟩

set_option maxRecDepth 20000 in
set_option maxHeartbeats 4000000 in
theorem rwCheck_any (s : Bool) (d : Int) (m : Msg) (a : Option Addr) (c : Nat) (w : World) (hsl : PL w w.heap.size a m.props) (hn : m.props.length ≤ 4398046511104) (ht : m.topic.size ≤ 9223372036854775807 ∧ m.frm.size ≤ 9223372036854775807 ∧ ∀ y ∈ m.props, y.1.size ≤ 9223372036854775807) :
    Calls Tryd.prog 5 #[wiV s d m a c] w fun e w' => e = .returned (.int .i64 (wchkR s d m)) ∧ Below w.heap.size w w' := by
  have HSM := Lib.hid (fun w1 h1 h2 => rSame_any m Msg.zero a none c 0 w1 h1 h2 (by omega))
  have HCK := Lib.hid (fun w1 h1 => rCheck_any m a c w1 h1 ht.1 ht.2.1 ht.2.2)
  have HM := Lib.hid hsl
  obtain ⟨R, hR⟩ : ∃ R, wchkR s d m = R := ⟨_, rfl⟩
  have HR := Lib.hid hR
  rw [hR]
  clear hR
  obtain ⟨bE, hbE⟩ : ∃ b, sameM m Msg.zero = b := ⟨_, rfl⟩
  rw [hbE, zeroV] at HSM
  have HBE := Lib.hid hbE
  clear hsl hbE ht
  unfold msgV at HSM HCK
  go_enter Tryd.func5, Tryd.ntmps5
  go_upto_region 1 with fail
  refine name_world (C := fun w1 => Code.wp _ _ _ _ w1) (w.alloc (.cells (wiC s d m a c).toArray 29)) ?_
  intro w1 hw1
  have hb1 : Below w.heap.size w w1 := by rw [hw1]; exact S2.below_new w _
  have V_w1 : Hid (BK 29 w1 w.heap.size (wiC s d m a c)) := Lib.hid (by rw [hw1]; exact BK.new w _ _)
  have B_w1 := Lib.hid hb1
  have P_w1 : Hid (PL w1 w1.heap.size a m.props) := Lib.hid (GL.step HM.out hb1)

  clear hw1 hb1
  have d0 := V_w1.out.cell 0 rfl
  have d1 := V_w1.out.cell 1 rfl
  have HLM := Lib.hid (load_wi_msg V_w1.out)
  unfold msgV at HLM
  cases s with
  | false =>
    by_cases hd : d = 0
    · have q1 : (d == 0) = true := by simp [hd]
      have q1' : (d != 0) = false := by simp [hd]
      go_wp2_with first
        | (refine wpList_load_v (by rfl) 27 _ rfl ⟨w.heap.size, 2, none⟩ (by first | rfl | go_simp) _ HLM.out ?_)
      refine (HSM.out w1 P_w1.out (GL.nil _ _ _)).mono ?_
      rintro e w2 ⟨rfl, hb⟩
      have B_w2 := Lib.hid (stepB B_w1.out hb)
      have d2 := (V_w1.out.step hb).cell 0 rfl
      have d3 := (V_w1.out.step hb).cell 1 rfl
      clear hb d0 d1
      cases bE with
      | true =>
        obtain rfl : R = 0 := by rw [← HR.out, wchk_f, if_pos ⟨hd, of_decide_eq_true HBE.out⟩]
        clear hd q1 q1'
        go_wp2
        go_ret
        exact ⟨rfl, B_w2.out⟩
      | false =>
        obtain rfl : R = 28 := by rw [← HR.out, wchk_f, if_neg (fun h => of_decide_eq_false HBE.out h.2)]
        clear hd q1 q1'
        go_wp2
        go_ret
        exact ⟨rfl, B_w2.out⟩
    · have q1 : (d == 0) = false := by simp [hd]
      have q1' : (d != 0) = true := by simp [hd]
      obtain rfl : R = 28 := by rw [← HR.out, wchk_f, if_neg (fun h => hd h.1)]
      clear hd
      go_wp2
      go_ret
      exact ⟨rfl, B_w1.out⟩
  | true =>
    by_cases h1 : d < 0
    · have q1 : decide (d < 0) = true := decide_eq_true h1
      obtain rfl : R = 1 := by rw [← HR.out, wchk_t, if_pos (Or.inl h1)]
      clear h1
      go_wp2
      go_ret
      exact ⟨rfl, B_w1.out⟩
    have q1 : decide (d < 0) = false := decide_eq_false h1
    by_cases h2 : 1099511627776 < d
    · have q2 : decide ((1099511627776 : Int) < d) = true := decide_eq_true h2
      obtain rfl : R = 1 := by rw [← HR.out, wchk_t, if_pos (Or.inr h2)]
      clear h1 h2
      go_wp2
      go_ret
      exact ⟨rfl, B_w1.out⟩
    have q2 : decide ((1099511627776 : Int) < d) = false := decide_eq_false h2
    obtain rfl : R = (checkR m : Int) := by rw [← HR.out, wchk_t, if_neg (fun h => h.elim h1 h2)]
    clear h1 h2
    go_wp2_with first
      | (refine wpList_load_v (by rfl) 27 _ rfl ⟨w.heap.size, 2, none⟩ (by first | rfl | go_simp) _ HLM.out ?_)
    refine (HCK.out w1 P_w1.out).mono ?_
    rintro e w2 ⟨rfl, hb⟩
    have B_w2 := Lib.hid (stepB B_w1.out hb)
    clear hb
    go_wp2
    go_ret
    exact ⟨rfl, B_w2.out⟩

/-- the next instant -/
def nextD (l : List Du) : Int × Bool := match l with
  | [] => (0, false)
  | x :: _ => (x.tm, true)
set_option maxRecDepth 20000 in
set_option maxHeartbeats 4000000 in
theorem next_any (A : Option Addr) (c : Nat) (xs : List DE) (w : World) (hsl : DI w w.heap.size A xs) :
    Calls Tryd.prog 25 #[.slice A xs.length c] w fun e w' => e = .returned (.tuple #[.int .i64 (nextD (xs.map DE.d)).1, .bool (nextD (xs.map DE.d)).2]) ∧ Below w.heap.size w w' := by
  cases xs with
  | nil =>
    clear hsl
    show Calls Tryd.prog 25 #[.slice A 0 c] w fun e w' => e = .returned (.tuple #[.int .i64 0, .bool false]) ∧ Below w.heap.size w w'
    go_enter Tryd.func25, Tryd.ntmps25
    go_wp2
    go_ret2
    exact ⟨rfl, Below.refl _ _⟩
  | cons x xs =>
    obtain ⟨b, o, rfl, hb, hc, _⟩ := hsl.at_ (j := 0) (x := x) rfl
    have d1 : w.cell? ⟨b, o + 1, none⟩ = some (.int .i64 x.d.tm) := by have := hc 1 _ rfl; simpa using this
    show Calls Tryd.prog 25 #[.slice (some ⟨b, o, none⟩) (xs.length + 1) c] w fun e w' => e = .returned (.tuple #[.int .i64 x.d.tm, .bool true]) ∧ Below w.heap.size w w'
    obtain ⟨n, hn⟩ : ∃ n, n = xs.length + 1 := ⟨_, rfl⟩
    have q1 : ((n : Int) == 0) = false := by simp; omega
    have q2 : (n == 0) = false := by simp; omega
    have q3 : (0 : Int) < (n : Int) := by omega
    have q4 : 0 < n := by omega
    have q5 : n ≠ 0 := by omega
    rw [← hn]
    clear hc hsl hn
    go_enter Tryd.func25, Tryd.ntmps25
    go_wp2
    go_ret2
    exact ⟨rfl, Below.refl _ _⟩

theorem instant_any (n : Int) (w : World) : Calls Tryd.prog 16 #[.int .i64 n] w fun e w' => e = .returned (.bool (decide (0 ≤ n) && decide (n ≤ 1099511627776))) ∧ Below w.heap.size w w' := by
  by_cases h : 0 ≤ n
  · have q1 : decide (0 ≤ n) = true := decide_eq_true h
    clear h
    rw [q1, Bool.true_and]
    go_enter Tryd.func16, Tryd.ntmps16
    go_wp2
    go_ret
    exact ⟨rfl, Below.refl _ _⟩
  · have q1 : decide (0 ≤ n) = false := decide_eq_false h
    clear h
    rw [q1, Bool.false_and]
    go_enter Tryd.func16, Tryd.ntmps16
    go_wp2
    go_ret
    exact ⟨rfl, Below.refl _ _⟩
end Go.Proofs.YtoakhkiiefiebabDoor
