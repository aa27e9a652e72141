/-
  Thirty-two exchanges and two hundred and fifty-six bindings, as plain values. Conditions: none.
-/
import Derived.Test.YtglnkpgdmophlaaGreatDoorEpX
namespace Go.Proofs.YtglnkpgdmophlaaGreatDoor
open Go.RowKit
open S2 (BK Put)

def nmF (i : Nat) : ByteArray := ⟨#[101, UInt8.ofNat (97 + i / 26), UInt8.ofNat (97 + i % 26)]⟩
def xF (i : Nat) : Ex := ⟨nmF i, 2, ⟨#[]⟩⟩
def lF (k : Nat) : List Ex := (List.range k).map xF
def kyF (i : Nat) : ByteArray := ⟨(Lib.repeatL [107] (i / 16)).toArray⟩ ++ ⟨#[46]⟩ ++ ⟨(Lib.repeatL [106] (i % 16)).toArray⟩
def bF (i : Nat) : Bd := ⟨⟨#[101, 97, 97]⟩, ⟨#[113]⟩, kyF i, false, []⟩
def bsF (k : Nat) : List Bd := (List.range k).map bF
def bR : Bd := ⟨⟨#[101, 97, 97]⟩, ⟨#[114]⟩, ⟨#[]⟩, false, []⟩
def xFf : Ex := ⟨⟨#[102]⟩, 1, ⟨#[]⟩⟩
theorem all_range {n : Nat} {p : Nat → Bool} (h : (List.range n).all p = true) {k : Nat} (hk : k < n) : p k = true := List.all_eq_true.1 h k (List.mem_range.2 hk)
theorem f1t : (List.range 32).all (fun k => decide (declR (lF k) (xF k) = (lF (k + 1), 0))) = true := by kernel_rfl
theorem f1 {k : Nat} (h : k < 32) : declR (lF k) (xF k) = (lF (k + 1), 0) := of_decide_eq_true (all_range f1t h)
theorem f2t : (List.range 32).all (fun i => (List.range 32).all fun j => !decide (i < j) || ltS (nmF i) (nmF j)) = true := by kernel_rfl
theorem lF_at {k i : Nat} {x : Ex} (h : (lF k)[i]? = some x) : i < k ∧ x = xF i := by
  have hi := (List.getElem?_eq_some_iff.1 h).1
  unfold lF at hi h
  rw [List.length_map, List.length_range] at hi
  rw [List.getElem?_map, List.getElem?_range hi] at h
  exact ⟨hi, (Option.some.inj h).symm⟩
theorem lF_get {k i : Nat} (h : i < k) : (lF k)[i]? = some (xF i) := by
  unfold lF
  rw [List.getElem?_map, List.getElem?_range h]
  rfl
theorem lF_len (k : Nat) : (lF k).length = k := by unfold lF; simp
theorem bsF_len (k : Nat) : (bsF k).length = k := by unfold bsF; simp
theorem bsF_ml (k : Nat) : ∀ b ∈ bsF k, b.ml = [] := fun b h => by
  unfold bsF at h
  obtain ⟨i, _, rfl⟩ := List.mem_map.1 h
  rfl
theorem f2 {k : Nat} (h : k ≤ 32) : AscE (lF k) := fun i j x y hx hy hij => by
  obtain ⟨h1, rfl⟩ := lF_at hx
  obtain ⟨h2, rfl⟩ := lF_at hy
  have := all_range (all_range f2t (show i < 32 by omega)) (show j < 32 by omega)
  rw [decide_eq_true hij] at this
  exact this
theorem f3 : declR (lF 32) xFf = ([], 6) := by kernel_rfl
theorem f4t : (List.range 32).all (fun k => decide (declR (lF 32) (xF k) = (lF 32, 0))) = true := by kernel_rfl
theorem f4 {k : Nat} (h : k < 32) : declR (lF 32) (xF k) = (lF 32, 0) := of_decide_eq_true (all_range f4t h)
theorem f5 : bindR (lF 32) (bsF 256) bR = ([], 6) := by kernel_rfl
theorem f6t : (List.range 256).all (fun n => decide (bdR (lF 32) (bF n) = 0)) = true := by kernel_rfl
theorem fB_memY {b : Bd} : ∀ {bs : List Bd} (k : Nat), b ∈ bs → 0 ≤ fB b bs k
  | x :: r, k, h => by
    show 0 ≤ (if x = b then (k : Int) else fB b r (k + 1))
    split
    · omega
    · next hne =>
      rcases List.mem_cons.1 h with h | h
      · exact absurd h.symm hne
      · exact fB_memY (k + 1) h
theorem bsF_mem {k n : Nat} (h : n < k) : bF n ∈ bsF k := by
  unfold bsF
  exact List.mem_map.2 ⟨n, List.mem_range.2 h, rfl⟩
theorem f6 {n : Nat} (h : n < 256) : bindR (lF 32) (bsF 256) (bF n) = (bsF 256, 0) := by
  have h0 := of_decide_eq_true (all_range f6t h)
  unfold bindR
  rw [if_neg (by rw [h0]; decide), if_pos (fB_memY 0 (bsF_mem h))]
theorem f7 : ckR (lF 32) (bsF 256) = 0 := by kernel_rfl
theorem lF_ko (k : Nat) : ∀ x ∈ lF k, KO x.kd := fun x h => by
  unfold lF at h
  obtain ⟨i, _, rfl⟩ := List.mem_map.1 h
  exact Or.inr rfl
theorem stepDk {l l' : List Ex} {bs : List Bd} {x : Ex} {r : Int} (hd : declR l x = (l', r)) (ha : AscE l) (hl : l.length ≤ 1000) (hb : bs.length ≤ 1000) (hm : ∀ b ∈ bs, b.ml = []) {B : Nat} {w : World} {v1 v2 : Value} {ys : List BE} (hys : ys.map BE.d = bs) (h : RtN B w v1 l v2 ys) :
    Calls Tryz.prog 14 #[.agg #[v1, v2], exV x] w fun e w' => ∃ u1 u2 zs, e = .returned (.tuple #[.agg #[u1, u2], .int .i64 r]) ∧ zs.map BE.d = (if r = 0 then bs else []) ∧ RtN w.heap.size w' u1 l' u2 zs ∧ Below w.heap.size w w' := by
  obtain ⟨A1, c1, A2, c2, rfl, rfl, _, _, h1, h2, _⟩ := h.ret
  have hlen := len_of hys
  have hc := xDeclare_any A1 c1 l A2 c2 ys x w h1 h2 (few_of hys hm) (by omega) (by omega) ha
  unfold RetDe at hc
  rw [hd, hys] at hc
  exact hc
/-- Bind of a binding that lies elsewhere -/
theorem stepBy {l : List Ex} {bs bs' : List Bd} {y : BE} {k : Int} (hd : bindR l bs y.d = (bs', k)) (ha : AscE l) (hl : l.length ≤ 1000) (hb : bs.length ≤ 1000) (hm : ∀ b ∈ bs, b.ml = []) (hbm : y.d.ml = []) {B : Nat} {w : World} {v1 v2 : Value} {ys : List BE} (hys : ys.map BE.d = bs) (h : RtN B w v1 l v2 ys) :
    Calls Tryz.prog 16 #[.agg #[v1, v2], bdV y] w fun e w' => ∃ u1 u2 zs, e = .returned (.tuple #[.agg #[u1, u2], .int .i64 k]) ∧ zs.map BE.d = bs' ∧ RtN w.heap.size w' u1 (if k = 0 then l else []) u2 zs ∧ Below w.heap.size w w' := by
  obtain ⟨A1, c1, A2, c2, rfl, rfl, _, _, h1, h2, _⟩ := h.ret
  have hlen := len_of hys
  have hc := xBind_any A1 c1 l A2 c2 ys y w h1 h2 (few_of hys hm) (by omega) (by omega) ha ⟨by rw [hbm]; exact GL.nil _ _ _, by rw [hbm]; simp⟩
  unfold RetBi at hc
  rw [hys] at hc
  rw [hd] at hc
  exact hc
end Go.Proofs.YtglnkpgdmophlaaGreatDoor
