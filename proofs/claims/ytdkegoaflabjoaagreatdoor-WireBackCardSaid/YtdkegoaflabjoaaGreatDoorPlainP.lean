/-
What plainOf of packet hands back. Conditions: none.
-/
import Derived.Test.YtdkegoaflabjoaaGreatDoorMbx2
import Derived.Test.YtdkegoaflabjoaaGreatDoorSame
set_option maxHeartbeats 2000000
set_option maxRecDepth 20000
namespace Go.Proofs.YtdkegoaflabjoaaGreatDoor
open Go.RowKit

def plC (p : Pkt) : List Value := [.int .i64 p.kind, .int .i64 p.id, .bool p.dup, .string p.client, .string p.user, .bool p.clean, .int .i64 p.keep, .int .i64 p.expiry, .int .i64 p.window, .bool p.wset, .int .i64 p.wdelay, .bool p.present, .int .i64 p.code]
theorem plainOf_any (p : Pkt) (a : PA) (w : World) :
 Calls Tryz.prog 70 #[pkV p a] w fun e w' => e = .returned (.agg (plC p).toArray) ∧ Below w.heap.size w w' := by
 unfold pkV
 have k0 : (pkC p a)[0]? = some (.int .i64 p.kind) := rfl
 have k1 : (pkC p a)[1]? = some (.int .i64 p.id) := rfl
 have k2 : (pkC p a)[2]? = some (.bool p.dup) := rfl
 have k12 : (pkC p a)[12]? = some (.string p.client) := rfl
 have k13 : (pkC p a)[13]? = some (.string p.user) := rfl
 have k14 : (pkC p a)[14]? = some (.bool p.clean) := rfl
 have k15 : (pkC p a)[15]? = some (.int .i64 p.keep) := rfl
 have k16 : (pkC p a)[16]? = some (.int .i64 p.expiry) := rfl
 have k17 : (pkC p a)[17]? = some (.int .i64 p.window) := rfl
 have k18 : (pkC p a)[18]? = some (.bool p.wset) := rfl
 have k19 : (pkC p a)[19]? = some (.int .i64 p.wdelay) := rfl
 have k29 : (pkC p a)[29]? = some (.bool p.present) := rfl
 have k30 : (pkC p a)[30]? = some (.int .i64 p.code) := rfl
 go_enter Tryz.func70, Tryz.ntmps70
 go_wp2
 refine bodyPost_ret (v := .agg (plC p).toArray) (by simp [results, Tryz.results70, go_sem, plC]) rfl ⟨rfl, ((Below.refl _ _).alloc (Nat.le_refl _) _).alloc (by simp) _⟩

end Go.Proofs.YtdkegoaflabjoaaGreatDoor
