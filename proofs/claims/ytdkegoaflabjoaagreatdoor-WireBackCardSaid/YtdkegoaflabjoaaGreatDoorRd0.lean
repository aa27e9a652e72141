/-
The deferred closure of wire's Decode, in a frame that panics and in one that returns. Conditions: the two results' blocks are two.
-/
import Derived.Test.YtdkegoaflabjoaaGreatDoorMbx2
import Derived.Defers
import Derived.Recover
set_option maxHeartbeats 4000000
set_option maxRecDepth 20000
namespace Go.Proofs.YtdkegoaflabjoaaGreatDoor
open Go.RowKit

theorem ta_nil (w : World) : Sem.run Tryz.prog (Instr.typeAssert Value.nilIface 20 26 true) w = .ok (.tuple #[.int .i64 0, .bool false]) w := by kernel_rfl
theorem ta_err (n : Int) (w : World) : Sem.run Tryz.prog (Instr.typeAssert (.iface 26 (.int .i64 n)) 20 26 true) w = .ok (.tuple #[.int .i64 n, .bool true]) w := by kernel_rfl

theorem bld31 (d : Option Nat) (ps : String) (af) (ev : Operand → Value) (w : World) : (execOp ev { dst := d, op := Op.build 38 #[], type := 38, pos := ps, after := af, guard := none }).run Tryz.prog w = .ok (.value (.agg (pkC Pkt.zero PA.zero).toArray)) w := by
 unfold execOp
 simp [go_sem]
 rfl
theorem wpList_val {P : Program} {ops : Array Oper} {rest : List Oper} {o : Oper} {a : Act} {w : World} {Q : Exit → Act → World → Prop} (hgd : Region.wanted o (yielded ops a.tmps) = true) (v : Value) (hr : (execOp a.eval o).run P w = .ok (.value v) w)
 (h : wpList P ops Q rest (a.put o.dst v) w) : wpList P ops Q (o :: rest) a w :=
 wpList_wanted hgd fun _ hK => by
  unfold Oper.wp
  rw [hr]
  exact hK _ _ h

theorem dec_idle (PB CB : Nat) (w : World) :
 CallsD Tryz.prog 16 #[.pointer (some ⟨PB, 0, none⟩), .pointer (some ⟨CB, 0, none⟩)] .returning w fun e u' w' => e = .returned (.tuple #[]) ∧ u' = .returning ∧ w' = w := by
 refine callsD_of_wpS Tryz.func16 rfl fun c₀ cs hu => ?_
 apply wpS_seq
 apply wpS_region
 simp [wpOpsS, go_sem, recoverD, hu, Tryz.ntmps16, Exit.thenS, ta_nil]
 apply wpS_seq
 apply wpS_region
 simp [wpOpsS, go_sem, Exit.thenS]
 refine wpS_cond (t := false) (by simp [Act.eval, Array.replicate]) ?_
 simp only [Bool.false_eq_true, if_false]
 refine wpS_of_wp (wp_skip ?_)
 cases c₀
 simp_all [bodyPostS, results, Tryz.results16]

theorem dec_pan (PB CB : Nat) (n : Int) (older : List PanicEntry) (w : World) (vs : List Value) (hl : vs.length = 34) (c0 : Value) (hP : MT 38 w PB vs) (hC : MT 26 w CB [c0]) (hne : CB ≠ PB) :
 CallsD Tryz.prog 16 #[.pointer (some ⟨PB, 0, none⟩), .pointer (some ⟨CB, 0, none⟩)] (.panicking ({ v := .iface 26 (.int .i64 n), recovered := false } :: older)) w fun e u' w' =>
  e = .returned (.tuple #[]) ∧ u' = .panicking ({ v := .iface 26 (.int .i64 n), recovered := true } :: older) ∧ MT 38 w' PB (pkC Pkt.zero PA.zero) ∧ MT 26 w' CB [.int .i64 n] ∧ (∀ B w0, B ≤ PB → B ≤ CB → Below B w0 w → Below B w0 w') := by
 have HP := Lib.hid hP
 have HC := Lib.hid hC
 have HL := Lib.hid hl
 have fC : w.frozen? ⟨CB, 0, none⟩ = false := hC.free 0
 clear hP hC hl
 refine callsD_of_wpS Tryz.func16 rfl fun c₀ cs hu => ?_
 apply wpS_seq
 apply wpS_region
 simp [wpOpsS, go_sem, recoverD, hu, Tryz.ntmps16, Exit.thenS, ta_err]
 apply wpS_seq
 apply wpS_region
 simp [wpOpsS, go_sem, Exit.thenS]
 refine wpS_cond (t := true) (by simp [Act.eval, Array.replicate]) ?_
 simp only [if_true]
 refine wpS_of_wp ?_
 refine wp_mono (Q := fun e a' w' => e = Exit.normal ∧ a'.defers = [] ∧ MT 38 w' PB (pkC Pkt.zero PA.zero) ∧ MT 26 w' CB [.int .i64 n] ∧ (∀ B w0, B ≤ PB → B ≤ CB → Below B w0 w → Below B w0 w')) ?_ ?_
 · clear hu
   simp only [Array.replicate, List.replicate, List.setIfInBounds_toArray, List.set_cons_succ, List.set_cons_zero, List.append_toArray, List.cons_append, List.nil_append]
   refine wp_region_list ?_
   refine wpList_val (by rfl) (.agg (pkC Pkt.zero PA.zero).toArray) (bld31 _ _ _ _ _) ?_
   refine wpList_val (by rfl) (.int .i64 n) (by rfl) ?_
   refine wpList_store_blk (by rfl) 38 (.tmp 0) (.tmp 10) rfl rfl PB 0 34 rfl (.agg (pkC Pkt.zero PA.zero).toArray) rfl 38 vs (pkC Pkt.zero PA.zero) HP.out rfl rfl (by kernel_rfl) (by rw [HL.out]; decide) (fun u hu => List.all_eq_true.1 (rfl : (pkC Pkt.zero PA.zero).all (fun v => v.oneCell') = true) u hu) ?_
   rintro w1 hM hoth hbel
   refine wpList_store_blk (by rfl) 26 (.tmp 1) (.tmp 11) rfl rfl CB 0 1 rfl (.int .i64 n) rfl 26 [c0] [.int .i64 n] (hoth CB _ _ hne HC.out) rfl rfl (by kernel_rfl) (by simp) (fun u hu => by rw [List.mem_singleton] at hu; subst hu; rfl) ?_
   rintro w2 hM2 hoth2 hbel2
   have e34 : (pkC Pkt.zero PA.zero).length = 34 := rfl
   have hM' : MT 38 w1 PB (pkC Pkt.zero PA.zero) := by
    unfold putC at hM
    rw [List.drop_of_length_le (by rw [HL.out, e34]; decide), List.take_zero, List.nil_append, List.append_nil] at hM
    exact hM
   exact ⟨rfl, rfl, hoth2 PB _ _ (Ne.symm hne) hM', by unfold putC at hM2; exact hM2, fun B w0 h1 h2 hb => hbel2 B w0 h2 (hbel B w0 h1 hb)⟩
 · rintro e a' w' ⟨rfl, h0, h1, h2, h3⟩
   cases c₀
   simp_all [bodyPostS, results, Tryz.results16]

end Go.Proofs.YtdkegoaflabjoaaGreatDoor
