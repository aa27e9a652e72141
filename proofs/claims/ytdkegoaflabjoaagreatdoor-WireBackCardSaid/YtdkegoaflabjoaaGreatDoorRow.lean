/-
The encoding of numbers, as lists of bytes: its writing, its reading, and what joins them. No function of the program is walked here.
Lists of one-celled values in memory (bytes, texts, truth values, slices): as they came in, and as a call builds them; append of whatever source. No function of the program is walked here.
Lists in memory whose elements take several cells each (structs): as they came in, and as a call builds them; append of one element. No function of the program is walked here.
-/
import Derived.Test.YtdkegoaflabjoaaGreatDoorProg
import Derived.Deep.AppendSrc
import Derived.Laws.AppendOwn
import Derived.Laws.CopyOwn
import Derived.Laws.OwnMore
import Derived.Lib.Hide
import Derived.Lib.IndexBytes
import Derived.OwnWalk
import Derived.WalkKit
import Derived.WalkLawsBesides
import Derived.WalkSpells
namespace Go.Proofs.YtdkegoaflabjoaaGreatDoor

/-- the code of a number -/
def cdN (n : Int) : Nat := if 0 ≤ n then (2 * n).toNat else (-2 * n - 1).toNat
/-- the number with a code -/
def ncI (c : Nat) : Int := if c % 2 = 0 then ((c / 2 : Nat) : Int) else -((c / 2 : Nat) : Int) - 1
theorem nc_cd (n : Int) : ncI (cdN n) = n := by
 unfold ncI cdN
 split <;> split <;> omega
theorem cd_nc (c : Nat) : cdN (ncI c) = c := by
 unfold ncI cdN
 split <;> split <;> omega
theorem cd_lt {n : Int} (h1 : -9223372036854775808 ≤ n) (h2 : n ≤ 9223372036854775807) : cdN n < 18446744073709551616 := by
 unfold cdN
 split <;> omega
theorem nc_range {c : Nat} (h : c < 18446744073709551616) : -9223372036854775808 ≤ ncI c ∧ ncI c ≤ 9223372036854775807 := by
 unfold ncI
 split <;> omega

/-- the groups of a code, with so many groups more than one at most -/
def encF : Nat → Nat → List UInt8
 | 0, c => [UInt8.ofNat c]
 | f + 1, c => if c < 128 then [UInt8.ofNat c] else UInt8.ofNat (c % 128 + 128) :: encF f (c / 128)
def enc (n : Int) : List UInt8 := encF 9 (cdN n)
theorem encF_small (f c : Nat) (h : c < 128) : encF f c = [UInt8.ofNat c] := by
 cases f with
 | zero => rfl
 | succ f => rw [encF, if_pos h]
theorem encF_big (f c : Nat) (h : ¬ c < 128) : encF (f + 1) c = UInt8.ofNat (c % 128 + 128) :: encF f (c / 128) := by rw [encF, if_neg h]
theorem encF_len (f c : Nat) : 1 ≤ (encF f c).length ∧ (encF f c).length ≤ f + 1 := by
 induction f generalizing c with
 | zero => simp [encF]
 | succ f ih =>
   rw [encF]
   split
   · simp
   · have := ih (c / 128)
     simp only [List.length_cons]
     omega
theorem enc_len (n : Int) : 1 ≤ (enc n).length ∧ (enc n).length ≤ 10 := encF_len 9 _
theorem pow128 (f : Nat) : 128 ^ (f + 1) = 128 ^ f * 128 := Nat.pow_succ ..
theorem div_lt128 {c f : Nat} (h : c < 128 ^ (f + 1)) : c / 128 < 128 ^ f := by
 rw [pow128] at h
 exact Nat.div_lt_of_lt_mul (by rw [Nat.mul_comm]; exact h)

/-- reading: the error, the code, the bytes read -/
def rdF : Nat → Nat → List UInt8 → Nat × Nat × Nat
 | _, _, [] => (3, 0, 0)
 | i, acc, c :: r =>
   if i = 9 ∧ 1 < c.toNat then (2, 0, 0)
   else if 128 ≤ c.toNat then rdF (i + 1) (acc + (c.toNat % 128) * 128 ^ i) r
   else if c.toNat = 0 ∧ 0 < i then (2, 0, 0)
   else (0, acc + c.toNat * 128 ^ i, i + 1)

theorem toNat_ofNat8 {c : Nat} (h : c < 256) : (UInt8.ofNat c).toNat = c := by
 rw [UInt8.toNat_ofNat']
 omega

/-- what was written is read -/
theorem rdF_enc (r : List UInt8) : ∀ (f c i acc : Nat), i + f = 9 → (i = 9 → c ≤ 1) → (f = 0 ∨ c < 128 ^ f * 2) → (0 < i → 0 < c) → rdF i acc (encF f c ++ r) = (0, acc + c * 128 ^ i, i + (encF f c).length) := by
 intro f
 induction f with
 | zero =>
   intro c i acc hi h9 _ h0
   have h1 := h9 (by omega)
   have ht := toNat_ofNat8 (c := c) (by omega)
   simp only [encF, List.cons_append, List.nil_append, rdF, ht, List.length_cons, List.length_nil]
   rw [if_neg (by omega), if_neg (by omega), if_neg (by omega)]
 | succ f ih =>
   intro c i acc hi h9 hc h0
   have hc : c < 128 ^ (f + 1) * 2 := by
    rcases hc with h | h
    · omega
    · exact h
   by_cases hs : c < 128
   · rw [encF_small _ _ hs]
     have ht := toNat_ofNat8 (c := c) (by omega)
     simp only [List.cons_append, List.nil_append, rdF, ht, List.length_cons, List.length_nil]
     rw [if_neg (by omega), if_neg (by omega), if_neg (by omega)]
   · rw [encF_big _ _ hs]
     have ht := toNat_ofNat8 (c := c % 128 + 128) (by omega)
     simp only [List.cons_append, rdF, ht, List.length_cons]
     rw [if_neg (by omega), if_pos (by omega)]
     have hd : c / 128 < 128 ^ f * 2 := by
      rw [pow128] at hc
      exact Nat.div_lt_of_lt_mul (by rw [Nat.mul_comm 128, Nat.mul_assoc, Nat.mul_comm 2, ← Nat.mul_assoc]; exact hc)
     have hh9 : i + 1 = 9 → c / 128 ≤ 1 := fun h => by
      have hf : f = 0 := by omega
      subst hf
      simp only [Nat.pow_zero, Nat.one_mul] at hd
      omega
     have hhd : f = 0 ∨ c / 128 < 128 ^ f * 2 := Or.inr hd
     rw [ih (c / 128) (i + 1) _ (by omega) hh9 hhd (fun _ => by omega)]
     have e1 : (c % 128 + 128) % 128 = c % 128 := by omega
     have e2 : 128 ^ (i + 1) = 128 * 128 ^ i := by rw [pow128, Nat.mul_comm]
     have e3 : c / 128 * 128 ^ (i + 1) = c / 128 * 128 * 128 ^ i := by rw [e2, Nat.mul_assoc]
     have e4 : c = c % 128 + c / 128 * 128 := by omega
     have e5 : c * 128 ^ i = (c % 128) * 128 ^ i + c / 128 * 128 * 128 ^ i := by rw [← Nat.add_mul, ← e4]
     refine Prod.ext rfl (Prod.ext ?_ ?_)
     · show acc + (c % 128 + 128) % 128 * 128 ^ i + c / 128 * 128 ^ (i + 1) = acc + c * 128 ^ i
       rw [e1, e3, e5, Nat.add_assoc]
     · show i + 1 + (encF f (c / 128)).length = i + ((encF f (c / 128)).length + 1)
       omega

theorem rd_enc (n : Int) (h1 : -9223372036854775808 ≤ n) (h2 : n ≤ 9223372036854775807) (r : List UInt8) : rdF 0 0 (enc n ++ r) = (0, cdN n, (enc n).length) := by
 have hc := cd_lt h1 h2
 unfold enc
 have hp : 128 ^ 9 * 2 = 18446744073709551616 := by decide
 have hb : cdN n < 128 ^ 9 * 2 := by rw [hp]; exact hc
 rw [rdF_enc r 9 (cdN n) 0 0 (by omega) (fun h => by omega) (Or.inr hb) (fun h => by omega)]
 simp

/-- what ends too early -/
theorem rdF_torn : ∀ (f c i acc j : Nat), i + f = 9 → j < (encF f c).length → rdF i acc ((encF f c).take j) = (3, 0, 0) := by
 intro f
 induction f with
 | zero =>
   intro c i acc j hi hj
   simp only [encF, List.length_cons, List.length_nil] at hj
   obtain rfl : j = 0 := by omega
   simp [rdF]
 | succ f ih =>
   intro c i acc j hi hj
   cases j with
   | zero => simp [rdF]
   | succ j =>
     by_cases hs : c < 128
     · rw [encF_small _ _ hs] at hj
       simp at hj
     · rw [encF_big _ _ hs] at hj ⊢
       have ht := toNat_ofNat8 (c := c % 128 + 128) (by omega)
       simp only [List.take_succ_cons, rdF, ht]
       rw [if_neg (by omega), if_pos (by omega)]
       exact ih _ _ _ _ (by omega) (by simpa using hj)
theorem rd_torn (n : Int) (j : Nat) (h : j < (enc n).length) : rdF 0 0 ((enc n).take j) = (3, 0, 0) := rdF_torn 9 _ 0 0 j (by omega) h

/-- what is read was written -/
theorem rdF_only : ∀ (l : List UInt8) (i acc c k : Nat), i ≤ 9 → rdF i acc l = (0, c, k) →
 ∃ d, c = acc + d * 128 ^ i ∧ k ≤ i + l.length ∧ i + 1 ≤ k ∧ k ≤ 10 ∧ encF (9 - i) d = l.take (k - i) ∧ (0 < i → 0 < d) ∧ d < 128 ^ (9 - i) * 2 := by
 intro l
 induction l with
 | nil => intro i acc c k hi h; simp [rdF] at h
 | cons x r ih =>
   intro i acc c k hi h
   rw [rdF] at h
   have hx256 : x.toNat < 256 := x.toNat_lt
   have hxo : UInt8.ofNat x.toNat = x := by simp
   split at h
   · simp at h
   · next h9 =>
     split at h
     · next h128 =>
       have hi9 : i < 9 := by omega
       obtain ⟨d, hc, hk, hik, hk10, henc, hd0, hdl⟩ := ih (i + 1) _ c k (by omega) h
       have hdpos := hd0 (by omega)
       have e8 : 9 - i = (9 - (i + 1)) + 1 := by omega
       refine ⟨x.toNat % 128 + d * 128, ?_, by simp; omega, by omega, by omega, ?_, fun _ => by omega, ?_⟩
       · rw [hc, Nat.add_mul, pow128]
         have : d * (128 ^ i * 128) = d * 128 * 128 ^ i := by rw [Nat.mul_comm (128 ^ i), Nat.mul_assoc]
         rw [this]
         omega
       · rw [e8, encF_big _ _ (by omega)]
         have e9 : k - i = (k - (i + 1)) + 1 := by omega
         rw [e9, List.take_succ_cons, ← henc]
         have e10 : (x.toNat % 128 + d * 128) % 128 + 128 = x.toNat := by omega
         have e11 : (x.toNat % 128 + d * 128) / 128 = d := by omega
         rw [e10, e11, hxo]
       · rw [e8, pow128]
         have : 128 ^ (9 - (i + 1)) * 128 * 2 = 128 ^ (9 - (i + 1)) * 2 * 128 := by rw [Nat.mul_assoc, Nat.mul_comm 128 2, ← Nat.mul_assoc]
         rw [this]
         omega
     · next h128 =>
       split at h
       · simp at h
       · next h0 =>
         simp only [Prod.mk.injEq, true_and] at h
         obtain ⟨rfl, rfl⟩ := h
         have hp : 0 < 128 ^ (9 - i) := Nat.pow_pos (by decide)
         refine ⟨x.toNat, rfl, by simp, by omega, by omega, ?_, fun _ => by omega, ?_⟩
         · rw [encF_small _ _ (by omega), hxo, show i + 1 - i = 1 by omega]
           simp
         · by_cases hi9 : i = 9
           · subst hi9
             simp only [Nat.sub_self, Nat.pow_zero, Nat.one_mul]
             omega
           · have e8 : 9 - i = (8 - i) + 1 := by omega
             have hp8 : 0 < 128 ^ (8 - i) := Nat.pow_pos (by decide)
             rw [e8, pow128]
             omega
theorem rd_only {l : List UInt8} {c k : Nat} (h : rdF 0 0 l = (0, c, k)) : c < 18446744073709551616 ∧ 1 ≤ k ∧ k ≤ 10 ∧ k ≤ l.length ∧ enc (ncI c) = l.take k := by
 obtain ⟨d, hc, hk, hik, hk10, henc, _, hdl⟩ := rdF_only l 0 0 c k (by omega) h
 simp only [Nat.zero_add, Nat.pow_zero, Nat.mul_one, Nat.sub_zero] at hc hk henc hdl hik
 subst hc
 have : 128 ^ 9 * 2 = 18446744073709551616 := by decide
 refine ⟨by omega, by omega, hk10, hk, ?_⟩
 unfold enc
 rw [cd_nc]
 exact henc
theorem rdF_err : ∀ (l : List UInt8) (i acc e c k : Nat), rdF i acc l = (e, c, k) → e ≠ 0 → c = 0 ∧ k = 0 ∧ (e = 2 ∨ e = 3) := by
 intro l
 induction l with
 | nil => intro i acc e c k h _; simp [rdF] at h; omega
 | cons x r ih =>
   intro i acc e c k h he
   rw [rdF] at h
   split at h
   · simp at h; omega
   · split at h
     · exact ih _ _ _ _ _ h he
     · split at h
       · simp at h; omega
       · simp at h; omega

end Go.Proofs.YtdkegoaflabjoaaGreatDoor
namespace Go.Proofs.YtdkegoaflabjoaaGreatDoor
open Go.RowKit

def bs (l : List UInt8) : ByteArray := ⟨l.toArray⟩
def dl (s : ByteArray) : List UInt8 := s.data.toList
theorem bs_dl (s : ByteArray) : bs (dl s) = s := by cases s; simp [bs, dl]
theorem dl_bs (l : List UInt8) : dl (bs l) = l := by simp [bs, dl]
theorem dl_inj {a b : ByteArray} (h : dl a = dl b) : a = b := by rw [← bs_dl a, ← bs_dl b, h]
theorem size_dl (s : ByteArray) : s.size = (dl s).length := Lib.size_eq s
theorem size_bs (l : List UInt8) : (bs l).size = l.length := by rw [size_dl, dl_bs]
theorem retb {a b : Bool} (h : a = b) : Ending.returned (.bool a) = .returned (.bool b) := by rw [h]

/-- a byte as a value -/
def bv (x : UInt8) : Value := .int .u8 x.toNat
/-- the slice with this address reads as these values, below block B -/
def CL {α : Type} (f : α → Value) (w : World) (B : Nat) (A : Option Addr) (xs : List α) : Prop :=
 0 < xs.length → ∃ b o, A = some ⟨b, o, none⟩ ∧ b < B ∧ ∀ j x, xs[j]? = some x → w.cell? ⟨b, o + j, none⟩ = some (f x)
section
variable {α : Type} {f : α → Value}
theorem CL.nil (w : World) (B : Nat) (A : Option Addr) : CL f w B A [] := fun h => absurd h (by simp)
theorem CL.keep {w w' : World} {B : Nat} {A : Option Addr} {xs : List α} (h : CL f w B A xs) (hk : ∀ p : Addr, p.block < B → w'.cell? p = w.cell? p) : CL f w' B A xs := fun hn => by
 obtain ⟨b, o, e, hb, hc⟩ := h hn
 exact ⟨b, o, e, hb, fun j x hx => (hk ⟨b, o + j, none⟩ hb).trans (hc j x hx)⟩
theorem CL.below {w w' : World} {B : Nat} {A : Option Addr} {xs : List α} (h : CL f w B A xs) (hb : Below B w w') : CL f w' B A xs := h.keep fun _ hp => hb.cell hp
theorem CL.more {w : World} {B B' : Nat} {A : Option Addr} {xs : List α} (h : CL f w B A xs) (hB : B ≤ B') : CL f w B' A xs := fun hn => by
 obtain ⟨b, o, e, hb, hc⟩ := h hn
 exact ⟨b, o, e, by omega, hc⟩
/-- from world to world, each with all its blocks -/
theorem CL.step {w w' : World} {A : Option Addr} {xs : List α} (h : CL f w w.heap.size A xs) (hb : Below w.heap.size w w') : CL f w' w'.heap.size A xs := (h.below hb).more hb.size
/-- the slice from k on -/
theorem CL.drop {w : World} {B : Nat} {A : Option Addr} {xs : List α} (h : CL f w B A xs) {k cap : Nat} (hk : k ≤ xs.length) (hc : xs.length ≤ cap) :
 CL f w B (if cap = k then A else A.map (·.add k)) (xs.drop k) := fun hn => by
 rw [List.length_drop] at hn
 obtain ⟨b, o, e, hb, hcell⟩ := h (by omega)
 rw [if_neg (by omega), e]
 refine ⟨b, o + k, ?_, hb, fun j x hx => ?_⟩
 · simp only [Option.map_some, Addr.add]
   split
   · next h0 => subst h0; rfl
   · rfl
 · rw [List.getElem?_drop] at hx
   rw [Nat.add_assoc]
   exact hcell _ x hx
theorem CL.take {w : World} {B : Nat} {A : Option Addr} {xs : List α} (h : CL f w B A xs) (k : Nat) : CL f w B A (xs.take k) := fun hn => by
 rw [List.length_take] at hn
 obtain ⟨b, o, e, hb, hcell⟩ := h (by omega)
 refine ⟨b, o, e, hb, fun j x hx => hcell j x ?_⟩
 rw [List.getElem?_take] at hx
 split at hx
 · exact hx
 · cases hx
/-- a new block that holds the values -/
theorem CL.new {w : World} {t : TypeId} {xs : List α} : CL f (w.alloc (.cells (xs.map f).toArray t)) (w.alloc (.cells (xs.map f).toArray t)).heap.size (some ⟨w.heap.size, 0, none⟩) xs := fun _ =>
 ⟨w.heap.size, 0, rfl, by simp, fun j x hx => by
   rw [World.cell?_alloc_at _ _ _ _ (by rfl)]
   rw [Nat.zero_add, List.getElem?_toArray, List.getElem?_map, hx]; rfl⟩
/-- what the slice yields where it is appended -/
theorem CL.src {w : World} {B : Nat} {A : Option Addr} {xs : List α} (h : CL f w B A xs) {P : Program} {t e : TypeId} (hk : P.underlying t = some (.slice e)) (h1 : ∀ x, (f x).oneCell' = true) (c : Nat) :
 Src P 1 t (.slice A xs.length c) xs.length (xs.map f) w := by
 have ho : ∀ u ∈ xs.map f, u.oneCell' = true := fun u hu => by
  obtain ⟨x, _, rfl⟩ := List.mem_map.1 hu
  exact h1 x
 by_cases h0 : 0 < xs.length
 · obtain ⟨b, o, rfl, hb, hc⟩ := h h0
   refine Src.ofSlice w hk _ _ _ _ (by simp) (fun j u hj => ?_) ho
   rw [List.getElem?_map] at hj
   cases hx : xs[j]? with
   | none => rw [hx] at hj; cases hj
   | some x =>
     rw [hx] at hj
     obtain rfl := Option.some.inj hj
     have := hc j x hx
     unfold Addr.add
     split
     · next h0 => subst h0; exact this
     · exact this
 · have hx : xs = [] := List.eq_nil_of_length_eq_zero (by omega)
   subst hx
   cases A with
   | none => exact Src.ofNil w hk c
   | some a => exact Src.ofSlice w hk a 0 c [] (by simp) (fun j u hj => by simp at hj) (fun u hu => by simp at hu)
end

theorem stepB {a w w' : World} (h : Below a.heap.size a w) (h' : Below w.heap.size w w') : Below a.heap.size a w' := h.trans (h'.mono h.size)

theorem run_append_own_src {P : Program} (w : World) (base : Nat) (t tx ty e : TypeId) (i : TypeInfo) (z : Value) (size bytes : Nat) (ht : P.underlying t = some (.slice e)) (hi : P.info? e = some i) (hz : i.zero = some z)
 (hsize : i.size = size) (hby : i.bytes = bytes) (hzs : z.cells.size = size) (_hsz : 0 < size)
 (v : Value) (n : Nat) (xs : List Value) (hown : w.ownsRow base e size v n xs) (x : Value) (m : Nat) (news : List Value) (hs : Src P size tx x m news w)
 (h63 : n + m ≤ maxLen) (hbytes : (n + m) * bytes ≤ 140737488355328) (hbase : base ≤ w.heap.size) :
 ∃ v' w', (Builtin.append_ #[t, tx] ty #[v, x]).run P w = .ok v' w' ∧ w'.ownsRow base e size v' (n + m) (xs ++ news) ∧ w.grownBy w' v.ownBlock := by
 subst hsize
 subst hby
 have hl := hs.newsLen
 have hsmall : n + m ≤ 9223372036854775807 := by simp only [maxLen] at h63; omega
 have hlen : (xs ++ news).length = (n + m) * i.size := by rw [List.length_append, hown.1, hl, Nat.add_mul]
 have grown : ∀ (old : Nat), old < n + m → ∀ (row : Option Nat),
  (w.drew.alloc (.cells ((xs ++ news).toArray ++ Builtin.zeroCells z.cells (grownCap w (n + m) old e - (n + m))) e)).ownsRow base e i.size
   (.slice (some ⟨w.heap.size, 0, none⟩) (n + m) (grownCap w (n + m) old e)) (n + m) (xs ++ news) ∧
  w.grownBy (w.drew.alloc (.cells ((xs ++ news).toArray ++ Builtin.zeroCells z.cells (grownCap w (n + m) old e - (n + m))) e)) row := by
  intro old ho row
  have hge := grownCap_ge w (n + m) old e
  have hcm : grownCap w (n + m) old e ≤ maxLen := grownCap_le_maxLen w (n + m) old e h63
  refine ⟨⟨hlen, .inr ⟨w.heap.size, _, _, rfl, hbase, heap_alloc_new w.drew _, hge, hcm, ?_, ?_⟩⟩, ⟨rfl, rfl, rfl, by simp, fun k hk _ => heap_alloc_old w.drew _ hk⟩⟩
  · simp only [Array.size_append, List.size_toArray, size_zeroCells, hzs, hlen]
    rw [← Nat.add_mul]
    congr 1
    omega
  · simp only [Array.toList_append]
    rw [← hlen]
    exact List.take_left
 rcases hown.2 with ⟨rfl, rfl⟩ | ⟨g, cap, cur, rfl, hbg, hg, hnc, hcm, hcs, htake⟩
 · have hx : xs = [] := List.eq_nil_of_length_eq_zero (by simpa using hown.1)
   subst hx
   by_cases hm : m = 0
   · subst hm
     have hn : news = [] := List.eq_nil_of_length_eq_zero (by simpa using hl)
     subst hn
     refine ⟨.slice none 0 0, w, ?_, World.ownsRow_nil w base e i.size, ⟨rfl, rfl, rfl, Nat.le_refl _, fun _ _ _ => rfl⟩⟩
     have hl2 := hs.len
     have hc2 := hs.cells
     rcases hs.kind with ⟨e', hk⟩ | hk <;> simp [Builtin.append_, run_underlying ht, run_underlying hk, sizeOf, typeInfo, hi, hl2, hc2]
   · have hr := run_append_grow_src (P := P) w t tx ty e i z ht hi hz none 0 0 [] (run_firstCells_none w.drew i.size 0 0 0) x m news hs (by omega) (by omega) (growslice_fits (by omega) hbytes)
     have hgr := grown 0 (by omega) (Value.ownBlock (.slice none 0 0))
     exact ⟨_, _, hr, hgr.1, hgr.2⟩
 · by_cases hroom : n + m ≤ cap
   · have hfit : n * i.size + news.length ≤ cur.size := by rw [hl, hcs, ← Nat.add_mul]; exact Nat.mul_le_mul_right _ hroom
     have hst := run_storeCells_at P g (n * i.size) e news 0 cur w hg (by simpa using hfit) hs.one
     simp only [Nat.add_zero] at hst
     have hl2 := hs.len
     have hc2 := hs.cells
     have hr : (Builtin.append_ #[t, tx] ty #[.slice (some ⟨g, 0, none⟩) n cap, x]).run P w =
      .ok (.slice (some ⟨g, 0, none⟩) (n + m) cap) (w.setRow g (cur.toList.take (n * i.size) ++ news ++ cur.toList.drop (n * i.size + news.length)).toArray) := by
      rcases hs.kind with ⟨e', hk⟩ | hk <;> simp [Builtin.append_, run_underlying ht, run_underlying hk, sizeOf, typeInfo, hi, hl2, hroom, hc2, Addr.add_lit, hst]
     refine ⟨_, _, hr, ⟨hlen, .inr ⟨g, cap, _, rfl, hbg, setRow_heap w g cur _ e _ hg, hroom, hcm, ?_, ?_⟩⟩, ⟨rfl, rfl, rfl, by simp, fun k _ hk => setRow_other w g k _ (fun e => hk (by simp [Value.ownBlock, e]))⟩⟩
     · simp only [List.size_toArray, List.length_append, List.length_take, List.length_drop, Array.length_toList]
       omega
     · rw [htake, ← hlen]
       exact List.take_left
   · have holds : ∀ j u, xs[j]? = some u → w.drew.cell? ((⟨g, 0, none⟩ : Addr).add j) = some u := by
      intro j u hj
      have := hown.cells (g := g) rfl j u hj
      simpa using this
     have hr := run_append_grow_src (P := P) w t tx ty e i z ht hi hz (some ⟨g, 0, none⟩) n cap xs (run_firstCells_some w.drew i.size n ⟨g, 0, none⟩ n cap xs hown.1 holds) x m news hs (by omega) (by omega) (growslice_fits (by omega) hbytes)
     have hgr := grown cap (by omega) (Value.ownBlock (.slice (some ⟨g, 0, none⟩) n cap))
     exact ⟨_, _, hr, hgr.1, hgr.2⟩

theorem wpList_append_src {P : Program} (w : World) {ops : Array Oper} {rest : List Oper} {o : Oper} {a : Act} {Q : Exit → Act → World → Prop} (hgd : o.guard = none) (s x : Operand) (t tx : TypeId)
 (ho : o.op = .call { callee := .builtin .append, args := #[s, x], argTypes := #[t, tx] })
 (base : Nat) (e : TypeId) (i : TypeInfo) (z : Value) (size bytes : Nat) (ht : P.underlying t = some (.slice e)) (hi : P.info? e = some i) (hz : i.zero = some z)
 (hsize : i.size = size) (hby : i.bytes = bytes) (hzs : z.cells.size = size) (hsz : 0 < size)
 (v : Value) (n : Nat) (xs : List Value) (hs : a.eval s = v) (hown : w.ownsRow base e size v n xs) (vx : Value) (hx : a.eval x = vx) (m : Nat) (news : List Value) (hsrc : Src P size tx vx m news w)
 (h63 : n + m ≤ maxLen) (hbytes : (n + m) * bytes ≤ 140737488355328) (hbase : base ≤ w.heap.size)
 (h : ∀ v' w', w'.ownsRow base e size v' (n + m) (xs ++ news) → w.grownBy w' v.ownBlock → wpList P ops Q rest (a.put o.dst v') w') : wpList P ops Q (o :: rest) a w :=
 wpList_plain hgd fun _ hK => by
  obtain ⟨v', w', hr, h2, h3⟩ := run_append_own_src (P := P) w base t tx o.type e i z size bytes ht hi hz hsize hby hzs hsz v n xs hown vx m news hsrc h63 hbytes hbase
  unfold Oper.wp execOp
  simp only [ho, resolve, invoke, builtin, Sem.run_bind, Sem.run_pure, Result.andThen_ok, List.map_toArray, List.map_cons, List.map_nil, hs, hx, hr]
  exact hK _ _ (h v' w' h2 h3)

/-- a list that a call builds for itself -/
def Own {α : Type} (e : TypeId) (f : α → Value) (w : World) (B : Nat) (v : Value) (xs : List α) : Prop := w.ownsRow B e 1 v xs.length (xs.map f)
section
variable {α : Type} {f : α → Value} {e : TypeId}
theorem Own.nil (w : World) (B : Nat) : Own e f w B (.slice none 0 0) [] := World.ownsRow_nil _ _ _ _
theorem Own.made (w : World) (cap : Nat) (cur : Array Value) (B : Nat) (hb : B ≤ w.heap.size) (hm : cap ≤ maxLen) (hs : cur.size = cap) : Own e f (w.alloc (.cells cur e)) B (.slice (some ⟨w.heap.size, 0, none⟩) 0 cap) [] :=
 World.ownsRow_made w cur cap hb hm (by omega)
theorem Own.ret {w : World} {B : Nat} {v : Value} {xs : List α} (h : Own e f w B v xs) : ∃ A c, v = .slice A xs.length c ∧ xs.length ≤ c ∧ CL f w w.heap.size A xs := by
 unfold Own at h
 rcases h.2 with ⟨rfl, hn⟩ | ⟨g, cap, cur, rfl, hb, hg, hnc, hcm, hcs, htake⟩
 · have : xs = [] := List.eq_nil_of_length_eq_zero hn
   subst this
   exact ⟨none, 0, rfl, Nat.le_refl _, CL.nil _ _ _⟩
 · refine ⟨_, cap, rfl, hnc, fun _ => ⟨g, 0, rfl, (Array.getElem?_eq_some_iff.1 hg).1, fun j x hx => ?_⟩⟩
   have hj : j < xs.length := (List.getElem?_eq_some_iff.1 hx).1
   rw [Nat.zero_add, h.cellAt j (by omega), List.getElem?_map, hx]; rfl
theorem Own.alloc {w : World} {B : Nat} {v : Value} {xs : List α} (h : Own e f w B v xs) (o : Obj) : Own e f (w.alloc o) B v xs := World.ownsRow.alloc h o
theorem Own.drew {w : World} {B : Nat} {v : Value} {xs : List α} (h : Own e f w B v xs) : Own e f w.drew B v xs := World.ownsRow.drew h
/-- it stays behind a call that leaves what was there -/
theorem Own.step {w w' : World} {B : Nat} {v : Value} {xs : List α} (h : Own e f w B v xs) (hb : Below w.heap.size w w') : Own e f w' B v xs := by
 unfold Own at h ⊢
 refine ⟨h.1, ?_⟩
 rcases h.2 with h' | ⟨g, cap, cur, rfl, hB, hg, hnc, hcm, hcs, htake⟩
 · exact .inl h'
 · exact .inr ⟨g, cap, cur, rfl, hB, by rw [hb.block g (Array.getElem?_eq_some_iff.1 hg).1]; exact hg, hnc, hcm, hcs, htake⟩
theorem Own.weak {w : World} {B B' : Nat} {v : Value} {xs : List α} (h : Own e f w B v xs) (hB : B' ≤ B) : Own e f w B' v xs := by
 unfold Own at h ⊢
 refine ⟨h.1, ?_⟩
 rcases h.2 with h' | ⟨g, cap, cur, rfl, hb, hg, hnc, hcm, hcs, htake⟩
 · exact .inl h'
 · exact .inr ⟨g, cap, cur, rfl, by omega, hg, hnc, hcm, hcs, htake⟩

theorem wpList_app {P : Program} {ops : Array Oper} {rest : List Oper} {o : Oper} {a : Act} {Q : Exit → Act → World → Prop} (wr : World) (hgd : o.guard = none) (s x : Operand) (t tx : TypeId)
 (ho : o.op = .call { callee := .builtin .append, args := #[s, x], argTypes := #[t, tx] }) (z : Value) (bytes : Nat) (ht : P.underlying t = some (.slice e))
 (hi : (P.info? e).map (fun i => (i.zero, i.size, i.bytes)) = some (some z, 1, bytes)) (hzs : z.cells.size = 1) (hby : 0 < bytes) (B : Nat) (v : Value) (xs ys : List α) (hs : a.eval s = v) (hown : Own e f wr B v xs)
 (vx : Value) (hx : a.eval x = vx) (m : Nat) (hsrc : Src P 1 tx vx m (ys.map f) wr) (w0 : World) (hb : Below B w0 wr) (hB : B ≤ wr.heap.size) (hn : (xs.length + ys.length) * bytes ≤ 140737488355328)
 (h : ∀ v' w', Own e f w' B v' (xs ++ ys) → Below B w0 w' → B ≤ w'.heap.size → wpList P ops Q rest (a.put o.dst v') w') : wpList P ops Q (o :: rest) a wr := by
 obtain ⟨i, hi, hz, hz1, hz2⟩ := info_parts hi
 have hm : m = ys.length := by have := hsrc.newsLen; simpa using this.symm
 subst hm
 have hn2 : xs.length + ys.length ≤ 140737488355328 := Nat.le_trans (Nat.le_mul_of_pos_right _ hby) hn
 refine wpList_append_src wr hgd s x t tx ho B e i z 1 bytes ht hi hz hz1 hz2 hzs (by decide) v xs.length (xs.map f) hs hown vx hx ys.length (ys.map f) hsrc (by unfold maxLen; omega) hn hB ?_
 intro v' w' hown' hgrow
 refine h v' w' ?_ (hb.grown hgrow hB (fun j hj => (World.ownsRow.lt hown j hj).1)) (by have := hgrow.size; omega)
 unfold Own
 simpa using hown'
/-- one element, laid in a block of its own -/
theorem src_one {P : Program} {t : TypeId} (ht : P.underlying t = some (.slice e)) (w : World) (x : α) (u : Value) (hu : u = f x) (h1 : (f x).oneCell' = true) :
 Src P 1 t (.slice (some ⟨w.heap.size, 0, none⟩) 1 1) 1 ([x].map f) (w.alloc (.cells #[u] e)) := by
 subst hu
 exact Src.ofSlice _ ht _ 1 1 [f x] rfl (cell_one_new _ _ _) (fun u hu => by simp at hu; subst hu; exact h1)
end

/-- a text's bytes, where they are appended -/
theorem src_str {P : Program} {t : TypeId} (ht : P.underlying t = some .string) (w : World) (s : ByteArray) : Src P 1 t (.string s) s.size ((dl s).map bv) w := Src.ofString w ht s

end Go.Proofs.YtdkegoaflabjoaaGreatDoor
namespace Go.Proofs.YtdkegoaflabjoaaGreatDoor
open Go.RowKit

/-- the slice with this address reads as these elements, element j's cells from j times k on, below block B -/
def GL {α : Type} (g : α → List Value) (k : Nat) (w : World) (B : Nat) (A : Option Addr) (xs : List α) : Prop :=
 0 < xs.length → ∃ b o, A = some ⟨b, o, none⟩ ∧ b < B ∧ ∀ j x i v, xs[j]? = some x → (g x)[i]? = some v → w.cell? ⟨b, o + j * k + i, none⟩ = some v
theorem flat_at {α : Type} {g : α → List Value} {k : Nat} (hg : ∀ x, (g x).length = k) : ∀ (xs : List α) (j : Nat) (x : α) (i : Nat), xs[j]? = some x → i < k → (xs.flatMap g)[j * k + i]? = (g x)[i]? := by
 intro xs
 induction xs with
 | nil => intro j x i h; simp at h
 | cons y ys ih =>
   intro j x i h hi
   rw [List.flatMap_cons]
   cases j with
   | zero =>
     simp at h
     subst h
     rw [Nat.zero_mul, Nat.zero_add, List.getElem?_append_left (by rw [hg]; exact hi)]
   | succ j =>
     rw [List.getElem?_append_right (by rw [hg, Nat.succ_mul]; omega), hg, Nat.succ_mul]
     have e : j * k + k + i - k = j * k + i := by omega
     rw [e]
     exact ih j x i (by simpa using h) hi
theorem flat_len {α : Type} {g : α → List Value} {k : Nat} (hg : ∀ x, (g x).length = k) (xs : List α) : (xs.flatMap g).length = xs.length * k := by
 induction xs with
 | nil => simp
 | cons y ys ih => rw [List.flatMap_cons, List.length_append, hg, ih, List.length_cons, Nat.succ_mul]; omega
section
variable {α : Type} {g : α → List Value} {k : Nat}
theorem GL.nil (w : World) (B : Nat) (A : Option Addr) : GL g k w B A [] := fun h => absurd h (by simp)
theorem GL.keep {w w' : World} {B : Nat} {A : Option Addr} {xs : List α} (h : GL g k w B A xs) (hk : ∀ p : Addr, p.block < B → w'.cell? p = w.cell? p) : GL g k w' B A xs := fun hn => by
 obtain ⟨b, o, e, hb, hc⟩ := h hn
 exact ⟨b, o, e, hb, fun j x i v hx hv => (hk ⟨b, o + j * k + i, none⟩ hb).trans (hc j x i v hx hv)⟩
theorem GL.below {w w' : World} {B : Nat} {A : Option Addr} {xs : List α} (h : GL g k w B A xs) (hb : Below B w w') : GL g k w' B A xs := h.keep fun _ hp => hb.cell hp
theorem GL.more {w : World} {B B' : Nat} {A : Option Addr} {xs : List α} (h : GL g k w B A xs) (hB : B ≤ B') : GL g k w B' A xs := fun hn => by
 obtain ⟨b, o, e, hb, hc⟩ := h hn
 exact ⟨b, o, e, by omega, hc⟩
theorem GL.step {w w' : World} {A : Option Addr} {xs : List α} (h : GL g k w w.heap.size A xs) (hb : Below w.heap.size w w') : GL g k w' w'.heap.size A xs := (h.below hb).more hb.size
theorem GL.take {w : World} {B : Nat} {A : Option Addr} {xs : List α} (h : GL g k w B A xs) (n : Nat) : GL g k w B A (xs.take n) := fun hn => by
 rw [List.length_take] at hn
 obtain ⟨b, o, e, hb, hcell⟩ := h (by omega)
 refine ⟨b, o, e, hb, fun j x i v hx hv => hcell j x i v ?_ hv⟩
 rw [List.getElem?_take] at hx
 split at hx
 · exact hx
 · cases hx
/-- a new block that holds the elements -/
theorem GL.new (hg : ∀ x, (g x).length = k) {w : World} {t : TypeId} {xs : List α} : GL g k (w.alloc (.cells (xs.flatMap g).toArray t)) (w.alloc (.cells (xs.flatMap g).toArray t)).heap.size (some ⟨w.heap.size, 0, none⟩) xs := fun _ =>
 ⟨w.heap.size, 0, rfl, by simp, fun j x i v hx hv => by
   have hi : i < k := by rw [← hg x]; exact (List.getElem?_eq_some_iff.1 hv).1
   rw [World.cell?_alloc_at _ _ _ _ (by rfl), Nat.zero_add, List.getElem?_toArray, flat_at hg xs j x i hx hi]; exact hv⟩
/-- what the slice yields where it is appended -/
theorem GL.src (hg : ∀ x, (g x).length = k) (h1 : ∀ x, ∀ u ∈ g x, u.oneCell' = true) {w : World} {B : Nat} {A : Option Addr} {xs : List α} (h : GL g k w B A xs) {P : Program} {t e : TypeId} (hk : P.underlying t = some (.slice e)) (c : Nat) :
 Src P k t (.slice A xs.length c) xs.length (xs.flatMap g) w := by
 have ho : ∀ u ∈ xs.flatMap g, u.oneCell' = true := fun u hu => by
  obtain ⟨x, _, hx⟩ := List.mem_flatMap.1 hu
  exact h1 x u hx
 by_cases h0 : 0 < xs.length
 · obtain ⟨b, o, rfl, hb, hc⟩ := h h0
   refine Src.ofSlice w hk _ _ _ _ (flat_len hg xs) (fun j u hj => ?_) ho
   have hj' : j < xs.length * k := by rw [← flat_len hg xs]; exact (List.getElem?_eq_some_iff.1 hj).1
   have hk0 : 0 < k := by
    rcases Nat.eq_zero_or_pos k with h' | h'
    · subst h'; simp at hj'
    · exact h'
   have hd : j / k < xs.length := by rw [Nat.div_lt_iff_lt_mul hk0]; exact hj'
   have hm : j % k < k := Nat.mod_lt _ hk0
   have ej : j / k * k + j % k = j := by rw [Nat.mul_comm]; exact Nat.div_add_mod j k
   obtain ⟨x, hx⟩ : ∃ x, xs[j / k]? = some x := ⟨_, List.getElem?_eq_getElem hd⟩
   have hv := flat_at hg xs (j / k) x (j % k) hx hm
   rw [ej, hj] at hv
   have := hc (j / k) x (j % k) u hx hv.symm
   rw [Nat.add_assoc, ej] at this
   unfold Addr.add
   split
   · next h0 => subst h0; exact this
   · exact this
 · have hx : xs = [] := List.eq_nil_of_length_eq_zero (by omega)
   subst hx
   cases A with
   | none => exact Src.ofNil w hk c
   | some a => exact Src.ofSlice w hk a 0 c [] (by simp) (fun j u hj => by simp at hj) (fun u hu => by simp at hu)
end

/-- a list that a call builds for itself, k cells an element -/
def OwnG {α : Type} (e : TypeId) (g : α → List Value) (k : Nat) (w : World) (B : Nat) (v : Value) (xs : List α) : Prop := w.ownsRow B e k v xs.length (xs.flatMap g)
section
variable {α : Type} {g : α → List Value} {k : Nat} {e : TypeId}
theorem OwnG.nil (w : World) (B : Nat) : OwnG e g k w B (.slice none 0 0) [] := World.ownsRow_nil _ _ _ _
theorem OwnG.made (w : World) (cap : Nat) (cur : Array Value) (B : Nat) (hb : B ≤ w.heap.size) (hm : cap ≤ maxLen) (hs : cur.size = cap * k) : OwnG e g k (w.alloc (.cells cur e)) B (.slice (some ⟨w.heap.size, 0, none⟩) 0 cap) [] :=
 World.ownsRow_made w cur cap hb hm hs
theorem OwnG.ret (hg : ∀ x, (g x).length = k) {w : World} {B : Nat} {v : Value} {xs : List α} (h : OwnG e g k w B v xs) : ∃ A c, v = .slice A xs.length c ∧ xs.length ≤ c ∧ GL g k w w.heap.size A xs := by
 unfold OwnG at h
 rcases h.2 with ⟨rfl, hn⟩ | ⟨q, cap, cur, rfl, hb, hq, hnc, hcm, hcs, htake⟩
 · have : xs = [] := List.eq_nil_of_length_eq_zero hn
   subst this
   exact ⟨none, 0, rfl, Nat.le_refl _, GL.nil _ _ _⟩
 · refine ⟨_, cap, rfl, hnc, fun _ => ⟨q, 0, rfl, (Array.getElem?_eq_some_iff.1 hq).1, fun j x i v hx hv => ?_⟩⟩
   have hi : i < k := by rw [← hg x]; exact (List.getElem?_eq_some_iff.1 hv).1
   have hj : j < xs.length := (List.getElem?_eq_some_iff.1 hx).1
   have hjk : j * k + i < xs.length * k := by
    have h1 : j * k + k ≤ xs.length * k := by rw [← Nat.succ_mul]; exact Nat.mul_le_mul hj (Nat.le_refl _)
    omega
   rw [Nat.zero_add, h.cellAt _ hjk, flat_at hg xs j x i hx hi]; exact hv
theorem OwnG.alloc {w : World} {B : Nat} {v : Value} {xs : List α} (h : OwnG e g k w B v xs) (o : Obj) : OwnG e g k (w.alloc o) B v xs := World.ownsRow.alloc h o
theorem OwnG.drew {w : World} {B : Nat} {v : Value} {xs : List α} (h : OwnG e g k w B v xs) : OwnG e g k w.drew B v xs := World.ownsRow.drew h
theorem OwnG.step {w w' : World} {B : Nat} {v : Value} {xs : List α} (h : OwnG e g k w B v xs) (hb : Below w.heap.size w w') : OwnG e g k w' B v xs := by
 unfold OwnG at h ⊢
 refine ⟨h.1, ?_⟩
 rcases h.2 with h' | ⟨q, cap, cur, rfl, hB, hq, hnc, hcm, hcs, htake⟩
 · exact .inl h'
 · exact .inr ⟨q, cap, cur, rfl, hB, by rw [hb.block q (Array.getElem?_eq_some_iff.1 hq).1]; exact hq, hnc, hcm, hcs, htake⟩
theorem OwnG.weak {w : World} {B B' : Nat} {v : Value} {xs : List α} (h : OwnG e g k w B v xs) (hB : B' ≤ B) : OwnG e g k w B' v xs := by
 unfold OwnG at h ⊢
 refine ⟨h.1, ?_⟩
 rcases h.2 with h' | ⟨q, cap, cur, rfl, hb, hq, hnc, hcm, hcs, htake⟩
 · exact .inl h'
 · exact .inr ⟨q, cap, cur, rfl, by omega, hq, hnc, hcm, hcs, htake⟩

theorem wpList_appG {P : Program} {ops : Array Oper} {rest : List Oper} {o : Oper} {a : Act} {Q : Exit → Act → World → Prop} (hk0 : 0 < k) (wr : World) (hgd : o.guard = none) (s x : Operand) (t tx : TypeId)
 (ho : o.op = .call { callee := .builtin .append, args := #[s, x], argTypes := #[t, tx] }) (z : Value) (bytes : Nat) (ht : P.underlying t = some (.slice e))
 (hi : (P.info? e).map (fun i => (i.zero, i.size, i.bytes)) = some (some z, k, bytes)) (hzs : z.cells.size = k) (hby : 0 < bytes) (B : Nat) (v : Value) (xs ys : List α) (hs : a.eval s = v) (hown : OwnG e g k wr B v xs)
 (vx : Value) (hx : a.eval x = vx) (hsrc : Src P k tx vx ys.length (ys.flatMap g) wr) (w0 : World) (hb : Below B w0 wr) (hB : B ≤ wr.heap.size) (hn : (xs.length + ys.length) * bytes ≤ 140737488355328)
 (h : ∀ v' w', OwnG e g k w' B v' (xs ++ ys) → Below B w0 w' → B ≤ w'.heap.size → wpList P ops Q rest (a.put o.dst v') w') : wpList P ops Q (o :: rest) a wr := by
 obtain ⟨i, hi, hz, hz1, hz2⟩ := info_parts hi
 have hn2 : xs.length + ys.length ≤ 140737488355328 := Nat.le_trans (Nat.le_mul_of_pos_right _ hby) hn
 refine wpList_append_src wr hgd s x t tx ho B e i z k bytes ht hi hz hz1 hz2 hzs hk0 v xs.length (xs.flatMap g) hs hown vx hx ys.length (ys.flatMap g) hsrc (by unfold maxLen; omega) hn hB ?_
 intro v' w' hown' hgrow
 refine h v' w' ?_ (hb.grown hgrow hB (fun j hj => (World.ownsRow.lt hown j hj).1)) (by have := hgrow.size; omega)
 unfold OwnG
 simpa [List.flatMap_append] using hown'
/-- one element, laid in a block of its own -/
theorem srcG_one (hg : ∀ x, (g x).length = k) (h1 : ∀ x, ∀ u ∈ g x, u.oneCell' = true) {P : Program} {t : TypeId} (ht : P.underlying t = some (.slice e)) (w : World) (x : α) :
 Src P k t (.slice (some ⟨w.heap.size, 0, none⟩) 1 1) 1 ([x].flatMap g) (w.alloc (.cells (g x).toArray e)) := by
 have := GL.src (A := some ⟨w.heap.size, 0, none⟩) (xs := [x]) hg h1 (w := w.alloc (.cells ([x].flatMap g).toArray e)) (GL.new hg) ht 1
 simpa using this
end

end Go.Proofs.YtdkegoaflabjoaaGreatDoor
