/-
  What Same of packet answers: whether two packets are one. Conditions: the packets read as data; lengths fit an int.
-/
import Derived.Test.YtmcocepjdhpecabGreatDoorSamP
namespace Go.Proofs.YtmcocepjdhpecabGreatDoor
open Go.RowKit

theorem info33 : (Tryz.prog.info? 42).map (·.size) = some 34 := by kernel_rfl
theorem info26 : (Tryz.prog.info? 34).map (·.size) = some 9 := by kernel_rfl
theorem info28 : (Tryz.prog.info? 38).map (·.size) = some 11 := by kernel_rfl
/-- a will's cells -/
def wlC (p : Pkt) (a : PA) : List Value := [.bool p.wset, .int .i64 p.wdelay, .string p.wmsg.topic, .string p.wmsg.payload, .int .i64 p.wmsg.level, .bool p.wmsg.retain, .int .i64 p.wmsg.prio, .int .i64 p.wmsg.exps, .string p.wmsg.frm, .int .i64 p.wmsg.seq, .slice a.v p.wmsg.props.length a.vc]
def wlV (p : Pkt) (a : PA) : Value := .agg (wlC p a).toArray
/-- lengths that fit an int -/
structure PSz (p : Pkt) : Prop where
  m : p.msg.props.length ≤ 9223372036854775806
  v : p.wmsg.props.length ≤ 9223372036854775806
  s : p.subs.length ≤ 9223372036854775806
  f : p.filters.length ≤ 9223372036854775806
  c : p.codes.length ≤ 9223372036854775806
def plainEq (p q : Pkt) : Bool := decide (p.kind = q.kind ∧ p.id = q.id ∧ p.dup = q.dup ∧ p.client = q.client ∧ p.user = q.user ∧ p.clean = q.clean ∧ p.keep = q.keep ∧ p.expiry = q.expiry ∧ p.window = q.window ∧ p.wset = q.wset ∧ p.wdelay = q.wdelay ∧ p.present = q.present ∧ p.code = q.code)
theorem sameP_parts (p q : Pkt) : sameP p q = (plainEq p q && sameM p.msg q.msg && sameM p.wmsg q.wmsg && decide (p.subs = q.subs) && decide (p.filters = q.filters) && decide (p.codes = q.codes)) := by
  unfold sameP plainEq sameM
  rw [Bool.eq_iff_iff]
  simp only [Bool.and_eq_true, decide_eq_true_eq]
  constructor
  · rintro rfl; simp
  · intro h
    cases p; cases q
    simp only [Pkt.mk.injEq] at h ⊢
    simp_all
end Go.Proofs.YtmcocepjdhpecabGreatDoor
