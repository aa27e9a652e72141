/-
  LimitsBound answers true, walked. Conditions: the numbers fit an int; the list reads as data.
-/
import Derived.Test.YtmcocepjdhpecaaLiXa
import Derived.Test.YtmcocepjdhpecaaLiXb
namespace Go.Proofs.Ytmcocepjdhpecaa
open Go.RowKit

theorem limitsBound_walk (r b v t now : Int) (A : Option Addr) (c : Nat) (X : List (Nat × Int)) (w : World) (hsl : OL w w.heap.size A X) (hX : X.length ≤ 9223372036854775807) (hd : ∀ x ∈ X, x.1 ≤ 65535) :
    Calls Try.prog 8 #[bk r b v t, .int .i64 now, .slice A X.length c] w fun e w' => e = .returned (.bool true) ∧ Below w.heap.size w w' := by
  cases hv : vbL r b v t now with
  | false => exact limitsBound_bad0 r b v t now A c X w hv
  | true =>
    by_cases hr : 1000000 < r
    · exact limitsBound_bad1 r b v t now A c X w hv hr
    · by_cases hn : 549755813888 < now
      · exact limitsBound_bad2 r b v t now A c X w hv hr hn
      · by_cases hl : t < now
        · exact limitsBound_goodA r b v t now A c X w hsl hX hd hl hv hr hn
        · exact limitsBound_goodB r b v t now A c X w hsl hX hd hl hv hr hn
end Go.Proofs.Ytmcocepjdhpecaa
