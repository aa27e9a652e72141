/-
  What plainOf of packet hands back. Conditions: none.
-/
import Derived.Test.YtmcocepjdhpecabGreatDoorMbx
import Derived.Test.YtmcocepjdhpecabGreatDoorSameP
namespace Go.Proofs.YtmcocepjdhpecabGreatDoor
open Go.RowKit

def plC (p : Pkt) : List Value := [.int .i64 p.kind, .int .i64 p.id, .bool p.dup, .string p.client, .string p.user, .bool p.clean, .int .i64 p.keep, .int .i64 p.expiry, .int .i64 p.window, .bool p.wset, .int .i64 p.wdelay, .bool p.present, .int .i64 p.code]
end Go.Proofs.YtmcocepjdhpecabGreatDoor
