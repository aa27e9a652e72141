/-
  Queues of numbered messages, as plain data, and what numbered of brokerlaw17 answers. Conditions: at most 100 messages.
-/
import Derived.Test.YtgnbiicfabldbabSj
namespace Go.Proofs.Ytgnbiicfabldbab
open Go.RowKit
open S2 (BK Put)

def numM (i : Nat) : Msg := { Msg.zero with topic := ⟨#[116]⟩, seq := i }
def numE (i : Nat) : ME := ⟨numM i, none, 0⟩
def numL (n : Nat) : List ME := (List.range' 1 n).map numE
theorem numL_len (n : Nat) : (numL n).length = n := by simp [numL]
theorem numL_succ (n : Nat) : numL (n + 1) = numL n ++ [numE (n + 1)] := by
  unfold numL
  rw [List.range'_1_concat, List.map_append, Nat.add_comm 1 n]; rfl
theorem numL_at {n k : Nat} (h : k < n) : (numL n)[k]? = some (numE (k + 1)) := by
  unfold numL
  rw [List.getElem?_map, List.getElem?_range' h]; simp [Nat.add_comm]
theorem numL_map (n : Nat) : (numL n).map ME.m = (List.range' 1 n).map numM := by unfold numL; rw [List.map_map]; rfl
theorem numL_pl {w : World} {B n : Nat} : ∀ x ∈ numL n, PL w B x.a (mps x) := fun x hx => by
  obtain ⟨i, _, rfl⟩ := List.mem_map.1 hx
  exact GL.nil _ _ _
def pushN (a : List Nat) (x : Nat) (mx pol : Int) : List Nat × List Nat :=
  if (a.length : Int) < mx then (a ++ [x], []) else if pol = 1 ∧ 1 ≤ mx then (a.drop 1 ++ [x], a.take 1) else (a, [x])
theorem push_num (a : List Nat) (x : Nat) (mx pol : Int) : (pushR (a.map numM) (numM x) mx pol).1 = (pushN a x mx pol).1.map numM ∧ (pushR (a.map numM) (numM x) mx pol).2.1 = (pushN a x mx pol).2.map numM := by
  unfold pushR pushN
  rw [List.length_map]
  split
  · exact ⟨by simp, rfl⟩
  · split
    · exact ⟨by simp, by simp⟩
    · exact ⟨rfl, rfl⟩
/-- of the first k messages these are in the queue and those were dropped -/
structure Ordd (mx : Int) (k : Nat) (a d : List Nat) : Prop where
  asc : a.Pairwise (· < ·)
  ra : ∀ x ∈ a, 1 ≤ x ∧ x ≤ k
  rd : ∀ x ∈ d, 1 ≤ x ∧ x ≤ k
  nd : d.Nodup
  dis : ∀ x ∈ d, x ∉ a
  len : a.length + d.length = k
  max : a ≠ [] → (a.length : Int) ≤ mx
theorem Ordd.zero (mx : Int) : Ordd mx 0 [] [] := ⟨.nil, (fun x h => by cases h), (fun x h => by cases h), .nil, (fun x h => by cases h), rfl, fun h => absurd rfl h⟩
theorem Ordd.push {mx : Int} {k : Nat} {a d : List Nat} (h : Ordd mx k a d) (pol : Int) : Ordd mx (k + 1) (pushN a (k + 1) mx pol).1 (d ++ (pushN a (k + 1) mx pol).2) := by
  have hk : k + 1 ∉ a := fun hm => by have := h.ra _ hm; omega
  have hkd : k + 1 ∉ d := fun hm => by have := h.rd _ hm; omega
  unfold pushN
  split
  · next h1 =>
    refine ⟨List.pairwise_append.2 ⟨h.asc, by simp, fun x hx y hy => ?_⟩, fun x hx => ?_, fun x hx => ?_, by simpa using h.nd, fun x hx hm => ?_, by simp; have := h.len; omega, fun _ => by simp; omega⟩
    · have := h.ra x hx; simp at hy; omega
    · rcases List.mem_append.1 hx with hx | hx
      · have := h.ra x hx; omega
      · simp at hx; omega
    · have := h.rd x (by simpa using hx); omega
    · have hx' : x ∈ d := by simpa using hx
      rcases List.mem_append.1 hm with hm | hm
      · exact h.dis x hx' hm
      · simp at hm; subst hm; exact hkd hx'
  · split
    · next h1 h2 =>
      cases a with
      | nil => exact absurd (show ((([] : List Nat).length : Nat) : Int) < mx by simp; omega) h1
      | cons u t =>
        have ha := List.pairwise_cons.1 h.asc
        have hu := h.ra u (by simp)
        have hud : u ∉ d := fun hm => h.dis u hm (by simp)
        refine ⟨List.pairwise_append.2 ⟨by simpa using ha.2, by simp, fun x hx y hy => ?_⟩, fun x hx => ?_, fun x hx => ?_, List.nodup_append.2 ⟨h.nd, by simp, fun x hx y hy => ?_⟩, fun x hx hm => ?_, by simp; have := h.len; simp at this; omega, fun _ => by have := h.max (by simp); simp at this ⊢; omega⟩
        · have := h.ra x (by simp at hx; simp [hx]); simp at hy; omega
        · rcases List.mem_append.1 hx with hx | hx
          · have := h.ra x (by simp at hx; simp [hx]); omega
          · simp at hx; omega
        · rcases List.mem_append.1 hx with hx | hx
          · have := h.rd x hx; omega
          · simp at hx; omega
        · simp at hy; subst hy; exact fun e => hud (e ▸ hx)
        · rcases List.mem_append.1 hx with hx | hx
          · rcases List.mem_append.1 hm with hm | hm
            · exact h.dis x hx (by simp at hm; simp [hm])
            · simp at hm; subst hm; exact hkd hx
          · simp at hx; subst hx
            rcases List.mem_append.1 hm with hm | hm
            · have := ha.1 x (by simpa using hm); omega
            · simp at hm; omega
    · refine ⟨h.asc, fun x hx => ?_, fun x hx => ?_, List.nodup_append.2 ⟨h.nd, by simp, fun x hx y hy => ?_⟩, fun x hx hm => ?_, by simp; have := h.len; omega, h.max⟩
      · have := h.ra x hx; omega
      · rcases List.mem_append.1 hx with hx | hx
        · have := h.rd x hx; omega
        · simp at hx; omega
      · simp at hy; subst hy; exact fun e => hkd (e ▸ hx)
      · rcases List.mem_append.1 hx with hx | hx
        · exact h.dis x hx hm
        · simp at hx; subst hx; exact hk hm
theorem pushN_small (a : List Nat) (x : Nat) (mx pol : Int) : (pushN a x mx pol).2.length ≤ 1 := by
  unfold pushN
  split
  · simp
  · split
    · simp; omega
    · simp
/-- with one policy throughout: the last ones, or the first ones -/
def Kept (M pol : Int) (k : Nat) (a : List Nat) : Prop := a = if pol = 1 then List.range' (k - min k M.toNat + 1) (min k M.toNat) else List.range' 1 (min k M.toNat)
theorem Kept.zero (M pol : Int) : Kept M pol 0 [] := by unfold Kept; simp
theorem Kept.push {M pol : Int} {k : Nat} {a : List Nat} (h : Kept M pol k a) (hM : 1 ≤ M) : Kept M pol (k + 1) (pushN a (k + 1) M pol).1 := by
  obtain ⟨m, rfl⟩ : ∃ m : Nat, M = (m : Int) := ⟨M.toNat, by omega⟩
  have hla : a.length = min k m := by rw [h]; split <;> simp
  unfold Kept at h ⊢
  simp only [Int.toNat_natCast] at h ⊢
  unfold pushN
  by_cases hp : pol = 1
  · rw [if_pos hp] at h ⊢
    by_cases hk : k < m
    · rw [if_pos (by omega), h, Nat.min_eq_left (by omega), Nat.min_eq_left (by omega), Nat.sub_self, Nat.sub_self]
      show List.range' (0 + 1) k ++ [k + 1] = List.range' (0 + 1) (k + 1)
      rw [List.range'_1_concat, Nat.zero_add, Nat.add_comm 1 k]
    · rw [if_neg (by omega), if_pos ⟨hp, by omega⟩, h, Nat.min_eq_right (by omega), Nat.min_eq_right (by omega)]
      show (List.range' (k - m + 1) m).drop 1 ++ [k + 1] = List.range' (k + 1 - m + 1) m
      obtain ⟨m', rfl⟩ : ∃ m', m = m' + 1 := ⟨m - 1, by omega⟩
      rw [List.range'_succ, List.drop_one, List.tail_cons, List.range'_1_concat, show k + 1 - (m' + 1) + 1 = k - (m' + 1) + 1 + 1 by omega, show k - (m' + 1) + 1 + 1 + m' = k + 1 by omega]
  · rw [if_neg hp] at h ⊢
    by_cases hk : k < m
    · rw [if_pos (by omega), h, Nat.min_eq_left (by omega), Nat.min_eq_left (by omega)]
      show List.range' 1 k ++ [k + 1] = List.range' 1 (k + 1)
      rw [List.range'_1_concat, Nat.add_comm 1 k]
    · rw [if_neg (by omega), if_neg (fun hh => hp hh.1), h, Nat.min_eq_right (by omega), Nat.min_eq_right (by omega)]

set_option maxRecDepth 20000 in
set_option maxHeartbeats 4000000 in
theorem numbered_any (n : Nat) (hn : n ≤ 1000) (w : World) : Calls Try.prog 21 #[.int .i64 n] w fun e w' => ∃ A c, e = .returned (.slice A n c) ∧ n ≤ c ∧ MI w' w'.heap.size A (numL n) ∧ Below w.heap.size w w' := by
  go_enter Try.func21, Try.ntmps21
  go_wp2_with fail
  go_loopg [3, 4] n (fun g u3 v wr => ∃ (k i : Nat), k + g = n ∧ i = k + 1 ∧ v = .int .i64 i ∧ OwnM wr w.heap.size u3 (numL k) ∧ Below w.heap.size w wr)
  case atStart => exact ⟨0, 1, by omega, rfl, rfl, OwnG.nil _ _, Below.refl _ _⟩
  case round =>
    obtain ⟨k, i, hkg, hi, rfl, hown, hb0⟩ := hrel
    have HO := Lib.hid hown
    have HB0 := Lib.hid hb0
    have HK := Lib.hid (And.intro hkg hi)
    clear hown hb0
    cases gk with
    | zero =>
      obtain rfl : k = n := by omega
      have e3 : decide ((i : Int) ≤ (k : Int)) = false := decide_eq_false (by omega)
      have e3' : decide (i ≤ k) = false := decide_eq_false (by omega)
      obtain ⟨A1, c1, rfl, hc1, hgl⟩ := OwnG.ret gM_len HO.out
      have HL := Lib.hid (And.intro hc1 hgl)
      rw [numL_len] at HL
      have HLE := numL_len k
      clear hkg hi hc1 hgl
      rw [HLE]
      go_wp2
      go_ret
      exact ⟨A1, c1, rfl, HL.out.1, ⟨HL.out.2, numL_pl⟩, HB0.out⟩
    | succ gk =>
      have e3 : decide ((i : Int) ≤ (n : Int)) = true := decide_eq_true (by omega)
      have e3' : decide (i ≤ n) = true := decide_eq_true (by omega)
      have hli : i ≤ 1000 := by omega
      clear hkg hi
      go_wp2_with first
        | (at_builtin; refine wpList_app1 gM_len gM_one (by decide) wr rfl _ _ 22 rfl (.agg (msgC Msg.zero none 0).toArray) 112 Try.underlying22 msgInfo rfl (by decide) w.heap.size u3 (numL k) (numE i) (by rfl) HO.out (by rfl) w HB0.out HB0.out.size (by rw [numL_len]; have := HK.out; omega) ?_; intro v5 w5 hown5 hb5 hs5)
      have O5 := Lib.hid hown5
      have B5 := Lib.hid hb5
      clear hown5 hb5 hs5
      go_roundg gk
      case measure => omega
      case rel => exact ⟨k + 1, i + 1, by have := HK.out; omega, by have := HK.out; omega, by go_num, (by have h := O5.out; rw [HK.out.2] at h; rw [numL_succ]; exact h), B5.out⟩
end Go.Proofs.Ytgnbiicfabldbab
