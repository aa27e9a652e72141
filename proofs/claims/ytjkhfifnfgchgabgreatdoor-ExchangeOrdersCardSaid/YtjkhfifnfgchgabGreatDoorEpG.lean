/-
  Exchanges and bindings in memory: lists of them as they came in, one loaded, one in a block of its own; clones. Conditions: lists read as data; few elements.
-/
import Derived.Test.YtjkhfifnfgchgabGreatDoorEpP
import Derived.Test.YtjkhfifnfgchgabGreatDoorNames
import Derived.Test.YtjkhfifnfgchgabGreatDoorLe
import Derived.Test.YtjkhfifnfgchgabGreatDoorSameP
import Derived.Laws.StructEq
namespace Go.Proofs.YtjkhfifnfgchgabGreatDoor
open Go.RowKit
open S2 (BK Put)

/-! ### Exchanges -/
def gE (x : Ex) : List Value := [.string x.nm, .int .i64 x.kd, .string x.alt]
def exV (x : Ex) : Value := .agg (gE x).toArray
def Ex.zero : Ex := ⟨ByteArray.empty, 0, ByteArray.empty⟩
theorem gE_len (x : Ex) : (gE x).length = 3 := rfl
theorem gE_one (x : Ex) : ∀ u ∈ gE x, u.oneCell' = true := ones rfl
theorem exSize : (Tryz.prog.info? 32).map (·.size) = some 3 := by kernel_rfl
theorem exInfo : (Tryz.prog.info? 32).map (fun i => (i.zero, i.size, i.bytes)) = some (some (.agg #[.string ByteArray.empty, .int .i64 0, .string ByteArray.empty]), 3, 40) := by kernel_rfl
abbrev EL (w : World) (B : Nat) (A : Option Addr) (xs : List Ex) : Prop := GL gE 3 w B A xs
theorem EL.at_ {w : World} {B : Nat} {A : Option Addr} {xs : List Ex} (h : EL w B A xs) {j : Nat} {x : Ex} (hx : xs[j]? = some x) :
    ∃ b o, A = some ⟨b, o, none⟩ ∧ b < B ∧ ∀ i v, (gE x)[i]? = some v → w.cell? ⟨b, o + j * 3 + i, none⟩ = some v := by
  obtain ⟨b, o, e, hb, hc⟩ := h (Nat.lt_of_le_of_lt (Nat.zero_le _) (List.getElem?_eq_some_iff.1 hx).1)
  exact ⟨b, o, e, hb, fun i v hv => hc j x i v hx hv⟩
theorem load_ex {w : World} {b o : Nat} {x : Ex} (hc : ∀ i v, (gE x)[i]? = some v → w.cell? ⟨b, o + i, none⟩ = some v) : (loadVar 32 ⟨b, o, none⟩).run Tryz.prog w = .ok (exV x) w :=
  run_load_cells w b o (gE x) 32 _ hc Tryz.underlying32 rfl exSize
theorem load_ex0 {w : World} {b : Nat} {x : Ex} (h : BK 32 w b (gE x)) : (loadVar 32 ⟨b, 0, none⟩).run Tryz.prog w = .ok (exV x) w := S2.run_load_all h Tryz.underlying32 rfl exSize

/-! ### Bindings -/
/-- a binding in a list and where its properties lie -/
structure BE where
  d : Bd
  a : Option Addr
  c : Nat
def gB (x : BE) : List Value := [.string x.d.ex, .string x.d.qu, .string x.d.ky, .bool x.d.all, .slice x.a x.d.ml.length x.c]
def bdV (x : BE) : Value := .agg (gB x).toArray
theorem gB_len (x : BE) : (gB x).length = 5 := rfl
theorem gB_one (x : BE) : ∀ u ∈ gB x, u.oneCell' = true := ones rfl
def Bd.zero : Bd := ⟨ByteArray.empty, ByteArray.empty, ByteArray.empty, false, []⟩
def BE.zero : BE := ⟨Bd.zero, none, 0⟩
abbrev bps (x : BE) : List PR := x.d.ml
theorem bdSize : (Tryz.prog.info? 35).map (·.size) = some 5 := by kernel_rfl
theorem bdInfo : (Tryz.prog.info? 35).map (fun i => (i.zero, i.size, i.bytes)) = some (some (.agg #[.string ByteArray.empty, .string ByteArray.empty, .string ByteArray.empty, .bool false, .slice none 0 0]), 5, 80) := by kernel_rfl
/-- a list of bindings that came in -/
abbrev BI (w : World) (B : Nat) (A : Option Addr) (xs : List BE) : Prop := LI gB 5 BE.a bps w B A xs
abbrev BN (w : World) (B : Nat) (A : Option Addr) (xs : List BE) : Prop := LN gB 5 BE.a bps w B A xs
abbrev OwnB (w : World) (B : Nat) (v : Value) (xs : List BE) : Prop := OwnG 35 gB 5 w B v xs
abbrev LstB (B : Nat) (w : World) (v : Value) (xs : List BE) : Prop := Lst 35 gB 5 BE.a bps B w v xs
theorem load_bd {w : World} {b o : Nat} {x : BE} (hc : ∀ i v, (gB x)[i]? = some v → w.cell? ⟨b, o + i, none⟩ = some v) : (loadVar 35 ⟨b, o, none⟩).run Tryz.prog w = .ok (bdV x) w :=
  run_load_cells w b o (gB x) 35 _ hc Tryz.underlying35 rfl bdSize
theorem load_bd0 {w : World} {b : Nat} {x : BE} (h : BK 35 w b (gB x)) : (loadVar 35 ⟨b, 0, none⟩).run Tryz.prog w = .ok (bdV x) w := S2.run_load_all h Tryz.underlying35 rfl bdSize
theorem rtSize : (Tryz.prog.info? 25).map (·.size) = some 2 := by kernel_rfl
/-- routes by value -/
def rtC (A1 : Option Addr) (n1 c1 : Nat) (A2 : Option Addr) (n2 c2 : Nat) : List Value := [.slice A1 n1 c1, .slice A2 n2 c2]
theorem eqI (a b : Int) : (a == b) = decide (a = b) := by
  rw [Bool.eq_iff_iff, decide_eq_true_eq, beq_iff_eq]
theorem dropC {α : Type} {X : List α} {k : Nat} {x : α} (hx : X[k]? = some x) : X.drop k = x :: X.drop (k + 1) := by
  obtain ⟨hk, rfl⟩ := List.getElem?_eq_some_iff.1 hx
  exact List.drop_eq_getElem_cons hk
theorem retI {k : IntKind} {a b : Int} (h : a = b) : Ending.returned (.int k a) = .returned (.int k b) := by rw [h]

/-! ### Equal exchanges -/
theorem eqEx (x y : Ex) (w : World) : Sem.run Tryz.prog (binOp .eql 32 (exV x) (exV y)) w = .ok (.bool (decide (x = y))) w := by
  obtain ⟨n, k, a⟩ := x
  obtain ⟨n', k', a'⟩ := y
  have u3 := Tryz.underlying9
  have a3 := Tryz.isAgg9
  have z3 := Tryz.sizeOf9
  have u4 := Tryz.underlying3
  have a4 := Tryz.isAgg3
  have z4 := Tryz.sizeOf3
  have hS : Tryz.prog.underlying 32 = some (.struct (Tryz.prog.fieldsOf 32)) := by kernel_rfl
  have hp : Tryz.prog.stoodInHeld 32 = false := by kernel_rfl
  have h1 := str_dec n n'
  have h2 := str_dec a a'
  unfold exV gE
  rw [run_eql_struct, show (10000 : Nat) = 9999 + 1 from rfl, run_equalIn_agg w 9999 32 _ _ hS hp]
  simp only [Program.fieldsOf, Tryz.underlying32]
  by_cases hn : n = n'
  · by_cases hk : k = k'
    · by_cases ha : a = a'
      · subst hn hk ha
        go_simp
      · go_simp
    · go_simp
  · go_simp
theorem neqEx (x y : Ex) (w : World) : Sem.run Tryz.prog (binOp .neq 32 (exV x) (exV y)) w = .ok (.bool (!decide (x = y))) w := by
  have h := eqEx x y w
  unfold exV at h ⊢
  rw [run_eql_struct] at h
  rw [run_neq_struct]
  generalize Sem.run Tryz.prog (Op.equalIn 10000 32 (.agg (gE x).toArray) (.agg (gE y).toArray)) w = r at h ⊢
  cases r with
  | ok v w' =>
    simp only [Result.andThen, Result.ok.injEq, Value.bool.injEq] at h ⊢
    obtain ⟨rfl, rfl⟩ := h
    exact ⟨rfl, rfl⟩
  | halt x w' => simp [Result.andThen] at h
theorem guardEx (op : BinOp) (x y : Operand) (xs ys : Array Value) (w : World) : Sem.run Tryz.prog (eqGuard op 32 x y (.agg xs) (.agg ys)) w = .ok () w := run_eqGuard_agg w op _ x y xs ys (by kernel_rfl)

/-! ### Clones -/
abbrev OwnE (w : World) (B : Nat) (v : Value) (xs : List Ex) : Prop := OwnG 32 gE 3 w B v xs
set_option maxHeartbeats 1000000 in
theorem cloneE_any (A : Option Addr) (c : Nat) (xs : List Ex) (w : World) (hsl : EL w w.heap.size A xs) (hn : xs.length ≤ 1000000) :
    Calls Tryz.prog 25 #[.slice A xs.length c] w fun e w' => ∃ v, e = .returned v ∧ OwnE w' w.heap.size v xs ∧ Below w.heap.size w w' := by
  have q22 : ∀ (w : World) (a : Option Addr) (n c n' c' : Nat), (binOp .eql 22 (.slice a n c) (.slice none n' c')).run Tryz.prog w = .ok (.bool a.isNone) w := fun w a n c n' c' => Lib.run_eql_slice_nil w _ _ a n c n' c' Tryz.underlying22
  cases A with
  | none =>
    have h0 : xs = [] := by
      rcases Nat.eq_zero_or_pos xs.length with h | h
      · exact List.eq_nil_of_length_eq_zero h
      · obtain ⟨b, o, e, _⟩ := hsl h; cases e
    subst h0
    clear hsl hn
    go_enter Tryz.func25, Tryz.ntmps25
    go_wp2
    go_ret
    exact ⟨_, rfl, OwnG.nil _ _, Below.refl _ _⟩
  | some a =>
    have hsl2 := hsl.step ((Below.refl _ _).alloc (Nat.le_refl _) (.cells #[] 32))
    have hb0 := (Below.refl w.heap.size w).alloc (Nat.le_refl _) (.cells #[] 32)
    have HS := Lib.hid hsl2
    clear hsl hsl2
    go_enter Tryz.func25, Tryz.ntmps25
    go_wp2_with (at_builtin; go_must (refine wpList_appG (g := gE) (k := 3) (e := 32) (by decide) _ rfl _ _ 22 22 rfl (.agg #[.string ByteArray.empty, .int .i64 0, .string ByteArray.empty]) 40 Tryz.underlying22 exInfo rfl (by decide) w.heap.size _ [] xs rfl (OwnG.made w 0 #[] w.heap.size (Nat.le_refl _) (by decide) rfl) _ rfl (GL.src gE_len gE_one HS.out Tryz.underlying22 c) w hb0 (by simp) (by simp; omega) ?_); intro v' w' hown' hb' hsz')
    go_ret
    exact ⟨_, rfl, hown', hb'⟩
end Go.Proofs.YtjkhfifnfgchgabGreatDoor
