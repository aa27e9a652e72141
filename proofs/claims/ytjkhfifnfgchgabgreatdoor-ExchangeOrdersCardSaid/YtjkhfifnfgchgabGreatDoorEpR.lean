/-
  Routing as plain values; what Sort and Compact of slices answer at a list of texts of one's own; what the kinds of exchanges and taken of exchange answer. Conditions: the lists read as data; few elements; the library's bound on short texts holds a number.
-/
import Derived.Test.YtjkhfifnfgchgabGreatDoorEpQ
import Derived.Lib.OwnBridge
import Derived.Lib.AppendIntMem
namespace Go.Proofs.YtjkhfifnfgchgabGreatDoor
open Go.RowKit
open S2 (BK Put get_ops)

def hasP (ps : List PR) (x : PR) : Bool := ps.any fun y => decide (y.1 = x.1) && decide (y.2 = x.2)
/-- a binding of an exchange of this kind takes a message -/
def takesR (kd : Int) (b : Bd) (key : ByteArray) (ps : List PR) : Bool := if kd = 1 then decide (b.ky = key) else if kd = 2 then true else if kd = 3 then mtR b.ky key else if b.all then b.ml.all (hasP ps) else b.ml.any (hasP ps)
def tkB (x : Ex) (key : ByteArray) (ps : List PR) (b : Bd) : Bool := decide (b.ex = x.nm) && takesR x.kd b key ps
/-- the queues of the bindings of an exchange that take a message -/
def takenR (bs : List Bd) (x : Ex) (key : ByteArray) (ps : List PR) : List ByteArray := (bs.filter (tkB x key ps)).map (·.qu)
def reachR (l : List Ex) (bs : List Bd) (key : ByteArray) (ps : List PR) : Nat → List ByteArray → ByteArray → List ByteArray
  | 0, _, _ => []
  | n + 1, asked, at_ => if asked.any (fun a => decide (a = at_)) then [] else match getE l at_ with
    | none => []
    | some x => if takenR bs x key ps = [] then reachR l bs key ps n (asked ++ [at_]) x.alt else takenR bs x key ps
def sortR (xs : List ByteArray) : List ByteArray := ((xs.map dl).mergeSort fun x y => decide (x ≤ y)).map bs
def compR (xs : List ByteArray) : List ByteArray := (Lib.compact (xs.map dl)).map bs
def routeR (l : List Ex) (bs : List Bd) (ex key : ByteArray) (ps : List PR) : List ByteArray × Int :=
  if txR key ≠ 0 then ([], txR key) else if propsR ps ≠ 0 then ([], (propsR ps : Int)) else if ex = ⟨#[]⟩ then (if nameR key = true then [key] else [], 0) else if nameR ex = false then ([], 11) else
  match getE l ex with
  | none => ([], 8)
  | some _ => (compR (sortR (reachR l bs key ps (l.length + 1) [] ex)), 0)
/-- the kinds that are walked -/
def KO (k : Int) : Prop := k = 1 ∨ k = 2
theorem KO.ok {k : Int} (h : KO k) : kdR k = true := by
  unfold kdR
  rcases h with rfl | rfl <;> rfl

/-! ### Lists of texts -/
def gT (x : ByteArray) : List Value := [.string x]
theorem gT_len (x : ByteArray) : (gT x).length = 1 := rfl
theorem gT_one (x : ByteArray) : ∀ u ∈ gT x, u.oneCell' = true := ones rfl
abbrev OwnT (w : World) (B : Nat) (v : Value) (xs : List ByteArray) : Prop := OwnG 9 gT 1 w B v xs
abbrev TL (w : World) (B : Nat) (A : Option Addr) (xs : List ByteArray) : Prop := GL gT 1 w B A xs
theorem flat_str (xs : List ByteArray) : xs.flatMap gT = xs.map Value.string := by
  induction xs with
  | nil => rfl
  | cons x r ih => rw [List.flatMap_cons, ih]; rfl
theorem ownT_iff {w : World} {B : Nat} {v : Value} {xs : List ByteArray} : OwnT w B v xs ↔ w.ownsRow B 9 1 v xs.length (xs.map Value.string) := by
  unfold OwnT OwnG
  rw [flat_str]
theorem strs_enc (xs : List ByteArray) : (xs.map dl).map encStr = xs.map Value.string := Lib.map_encStr xs
theorem map_bsdl (xs : List ByteArray) : (xs.map dl).map bs = xs := by
  rw [List.map_map]
  conv => rhs; rw [← List.map_id xs]
  exact List.map_congr_left fun x _ => bs_dl x
theorem map_dlbs (zs : List (List UInt8)) : (zs.map bs).map dl = zs := by
  rw [List.map_map]
  conv => rhs; rw [← List.map_id zs]
  exact List.map_congr_left fun x _ => dl_bs x
theorem sortR_nil : sortR [] = [] := by unfold sortR; simp
theorem compR_nil : compR [] = [] := by unfold compR; rfl
theorem sortR_len (xs : List ByteArray) : (sortR xs).length = xs.length := by unfold sortR; simp
theorem compactUpTo_len (d : Array (List UInt8)) : ∀ m, (Lib.compactUpTo d m).length ≤ m
  | 0 => by simp [Lib.compactUpTo]
  | m + 1 => by
    have h := compactUpTo_len d m
    rw [Lib.compactUpTo_succ]
    split <;> simp <;> omega
theorem sort_own {w : World} {B : Nat} {v : Value} {xs : List ByteArray} (h : OwnT w B v xs) (hn : xs.length ≤ 1000000) :
    Calls Tryz.prog 52 #[v] w fun e w' => e = .returned (.tuple #[]) ∧ OwnT w' B v (sortR xs) ∧ Below B w w' := by
  by_cases h0 : xs.length = 0
  · obtain ⟨A, c, rfl, _⟩ := OwnG.ret gT_len h
    have hx : xs = [] := List.eq_nil_of_length_eq_zero h0
    subst hx
    refine (Tryz.slices_Sort_string_none A c w).mono ?_
    rintro e w' ⟨rfl, rfl⟩
    exact ⟨rfl, by rw [sortR_nil]; exact h, Below.refl _ _⟩
  · have h1 := ownT_iff.1 h
    rw [← strs_enc] at h1
    obtain ⟨g, cap, rfl, hb, hlt, hnc, hcm, hl, hH⟩ := Lib.holds_of_ownsRow h1 (fun e => by
      rw [e] at h1
      rcases h1.2 with ⟨_, h3⟩ | ⟨q, _, _, h3, _⟩
      · exact h0 h3
      · cases h3)
    have hc := Tryz.slices_Sort_string g 0 cap (xs.map dl) w hH hlt (by rw [List.length_map]; omega)
    rw [List.length_map] at hc
    refine hc.mono ?_
    rintro e w' ⟨rfl, n, os, rfl⟩
    have h2 := Lib.ownsRow_putRow (q := n) (ys := (xs.map dl).mergeSort fun x y => decide (x ≤ y)) (k := xs.length) h1 (by simp) (Nat.le_refl _)
    have h3 := Lib.ownsRow_grow h2 0 os
    refine ⟨rfl, ?_, ?_⟩
    · rw [ownT_iff, sortR_len, ← strs_enc]
      unfold sortR
      rw [map_dlbs]
      rw [List.take_of_length_le (by simp)] at h3
      exact h3
    · have hb2 := Lib.below_putRow (enc := encStr) (q := n) (d := ((xs.map dl).mergeSort fun x y => decide (x ≤ y)).toArray) (Below.refl B w) hb
      exact hb2.trans (Lib.below_grow B _ (Nat.le_trans hb (Nat.le_trans (Nat.le_of_lt hlt) hb2.size)) 0 os)
theorem compact_own {w : World} {B : Nat} {v : Value} {xs : List ByteArray} (h : OwnT w B v xs) (hn : xs.length ≤ 1000000) :
    Calls Tryz.prog 53 #[v] w fun e w' => ∃ v', e = .returned v' ∧ OwnT w' B v' (compR xs) ∧ Below B w w' := by
  by_cases h0 : xs.length = 0
  · obtain ⟨A, c, rfl, _⟩ := OwnG.ret gT_len h
    have hx : xs = [] := List.eq_nil_of_length_eq_zero h0
    subst hx
    refine (Tryz.slices_Compact_string_empty A c w).mono ?_
    rintro e w' ⟨rfl, rfl⟩
    exact ⟨_, rfl, by rw [compR_nil]; exact h, Below.refl _ _⟩
  · have h1 := ownT_iff.1 h
    rw [← strs_enc] at h1
    obtain ⟨g, cap, rfl, hb, hlt, hnc, hcm, hl, hH⟩ := Lib.holds_of_ownsRow h1 (fun e => by
      rw [e] at h1
      rcases h1.2 with ⟨_, h3⟩ | ⟨q, _, _, h3, _⟩
      · exact h0 h3
      · cases h3)
    have hc := Tryz.slices_Compact_string g 0 cap (xs.map dl) w hH (by rw [List.length_map]; omega) (by rw [List.length_map]; exact hnc)
    rw [List.length_map] at hc
    have hcl : (Lib.compact (xs.map dl)).length ≤ xs.length := by
      have := compactUpTo_len (xs.map dl).toArray (xs.map dl).length
      unfold Lib.compact
      rw [List.length_map] at this
      rw [List.length_map]
      exact this
    refine hc.mono ?_
    rintro e w' ⟨rfl, q, rfl⟩
    have h2 := Lib.ownsRow_putRow (q := q) (ys := Lib.compact (xs.map dl) ++ List.replicate (xs.length - (Lib.compact (xs.map dl)).length) []) (k := (Lib.compact (xs.map dl)).length) h1 (by rw [List.length_append, List.length_replicate]; omega) hcl
    rw [List.take_left' rfl] at h2
    refine ⟨_, rfl, ?_, Lib.below_putRow (Below.refl B w) hb⟩
    rw [ownT_iff, ← strs_enc]
    unfold compR
    rw [map_dlbs, List.length_map]
    exact h2

/-! ### The kinds -/
def enV (key : ByteArray) (Ap : Option Addr) (np cp : Nat) : Value := .agg #[.string key, .slice Ap np cp]
def enC (key : ByteArray) (Ap : Option Addr) (np cp : Nat) : List Value := [.string key, .slice Ap np cp]
theorem enSize : (Tryz.prog.info? 79).map (·.size) = some 2 := by kernel_rfl
set_option maxHeartbeats 2000000 in
theorem direct_any (x : BE) (key : ByteArray) (Ap : Option Addr) (np cp : Nat) (w : World) :
    Calls Tryz.prog 142 #[.agg #[], bdV x, enV key Ap np cp] w fun e w' => e = .returned (.bool (decide (x.d.ky = key))) ∧ Below w.heap.size w w' := by
  have q1 : (x.d.ky.toList == key.toList) = decide (x.d.ky = key) := str_dec _ _
  generalize decide (x.d.ky = key) = b at *
  have HV : Hid (bdV x = .agg #[.string x.d.ex, .string x.d.qu, .string x.d.ky, .bool x.d.all, .slice x.a x.d.ml.length x.c]) := Lib.hid rfl
  rw [HV.out]
  unfold enV
  clear HV
  have HB := Lib.hid (fun (o1 o2 o3 : Obj) => ((S2.below_new w o1).alloc (by simp) o2).alloc (by simp; omega) o3)
  go_enter Tryz.func142, Tryz.ntmps142
  cases b
  all_goals
    go_wp2_with fail
    go_ret
    exact ⟨rfl, HB.out _ _ _⟩
set_option maxHeartbeats 2000000 in
theorem fanout_any (x : BE) (key : ByteArray) (Ap : Option Addr) (np cp : Nat) (w : World) :
    Calls Tryz.prog 143 #[.agg #[], bdV x, enV key Ap np cp] w fun e w' => e = .returned (.bool true) ∧ Below w.heap.size w w' := by
  have HB := Lib.hid (fun (o1 o2 o3 : Obj) => ((S2.below_new w o1).alloc (by simp) o2).alloc (by simp; omega) o3)
  have HV : Hid (bdV x = .agg #[.string x.d.ex, .string x.d.qu, .string x.d.ky, .bool x.d.all, .slice x.a x.d.ml.length x.c]) := Lib.hid rfl
  rw [HV.out]
  unfold enV
  clear HV
  go_enter Tryz.func143, Tryz.ntmps143
  go_wp2_with fail
  go_ret
  first
    | exact ⟨rfl, HB.out _ _ _⟩
    | exact ⟨rfl, ((S2.below_new w _).alloc (by simp) _)⟩
    | exact ⟨rfl, S2.below_new w _⟩
    | exact ⟨rfl, Below.refl _ _⟩
end Go.Proofs.YtjkhfifnfgchgabGreatDoor
