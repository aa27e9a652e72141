/-
The joint form of packets, as lists of bytes: writing, reading, recovered, only. No function of the program is walked here.
-/
import Derived.Test.YtdkegoaflabjoaaGreatDoorWireT
namespace Go.Proofs.YtdkegoaflabjoaaGreatDoor
open Go.RowKit

/-- a form with its length in front -/
def encB (p : Pkt) : List UInt8 := encT (bs (encPk p))
def encAllF : List Pkt → List UInt8 → List UInt8 × Nat
 | [], acc => (acc, 0)
 | p :: r, acc => if checkP p ≠ 0 then ([], checkP p) else encAllF r (acc ++ encB p)
def encAllR (l : List Pkt) : List UInt8 × Nat := encAllF l []
def decAllF : Nat → List UInt8 → Nat → List Pkt → List Pkt × Int
 | 0, _, _, acc => (acc, 0)
 | f + 1, l, p, acc => if p < l.length then
    if (textR l p 4096).2.2 ≠ 0 then ([], (textR l p 4096).2.2)
    else if (decodeR (dl (textR l p 4096).1)).2 ≠ 0 then ([], (decodeR (dl (textR l p 4096).1)).2)
    else decAllF f l (textR l p 4096).2.1.toNat (acc ++ [(decodeR (dl (textR l p 4096).1)).1])
   else (acc, 0)
def decAllR (l : List UInt8) : List Pkt × Int := decAllF (l.length + 1) l 0 []

theorem encAllF_ok : ∀ (l : List Pkt) (acc : List UInt8), (∀ p ∈ l, checkP p = 0) → encAllF l acc = (acc ++ encG encB l, 0)
 | [], acc, _ => by simp [encAllF, encG]
 | p :: r, acc, h => by
   rw [encAllF, if_neg (by simp [h p (by simp)]), encAllF_ok r _ (fun q hq => h q (by simp [hq])), encG_cons, List.append_assoc]
theorem decAllF_enc {l : List UInt8} : ∀ (xs : List Pkt) (k f : Nat) (acc : List Pkt), (∀ p ∈ xs, checkP p = 0) → k ≤ l.length → l.drop k = encG encB xs → l.length < f + k → decAllF f l k acc = (acc ++ xs, 0) := by
 intro xs
 induction xs with
 | nil =>
   intro k f acc _ hk h _
   have : ¬ k < l.length := by
    have h1 := congrArg List.length h
    rw [List.length_drop] at h1
    simp [encG] at h1
    omega
   cases f with
   | zero => simp [decAllF]
   | succ f => rw [decAllF, if_neg this, List.append_nil]
 | cons p xs ih =>
   intro k f acc hv hk h hf
   rw [encG_cons] at h
   obtain ⟨b1, d1⟩ := drop_app hk h
   have hp := hv p (by simp)
   have hle := encPk_le hp
   have hlen : 1 ≤ (encB p).length := by unfold encB encT; rw [List.length_append]; have := (enc_len (bs (encPk p)).size).1; omega
   cases f with
   | zero => omega
   | succ f =>
     have ht := textR_enc (l := l) (k := k) (s := bs (encPk p)) (limit := 4096) hk (by rw [size_bs]; omega) (by rw [size_bs]; omega) h
     rw [decAllF, if_pos (by omega), ht]
     dsimp only
     rw [if_neg (by simp), dl_bs, decodeR_enc hp]
     dsimp only
     rw [if_neg (by simp), Int.toNat_natCast]
     have e : (encT (bs (encPk p))).length = (encB p).length := rfl
     rw [e, ih (k + (encB p).length) f (acc ++ [p]) (fun q hq => hv q (by simp [hq])) b1 d1 (by omega)]
     simp
theorem decAllR_enc {xs : List Pkt} (hv : ∀ p ∈ xs, checkP p = 0) : decAllR (encG encB xs) = (xs, 0) := by
 exact decAllF_enc (l := encG encB xs) xs 0 _ [] hv (Nat.zero_le _) rfl (by omega)

end Go.Proofs.YtdkegoaflabjoaaGreatDoor
