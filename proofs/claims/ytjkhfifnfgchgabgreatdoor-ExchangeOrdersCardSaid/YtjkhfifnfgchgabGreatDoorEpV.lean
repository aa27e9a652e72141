/-
  The chapter's example as plain values; Declare and Bind one after another; two lists of texts compared. Conditions: few elements; lists read as data.
-/
import Derived.Test.YtjkhfifnfgchgabGreatDoorEpU
namespace Go.Proofs.YtjkhfifnfgchgabGreatDoor
open Go.RowKit
open S2 (BK Put get_ops)

def exX1 : Ex := ⟨⟨#[121]⟩, 2, ⟨#[]⟩⟩
def exX2 : Ex := ⟨⟨#[120]⟩, 1, ⟨#[121]⟩⟩
def exB1 : Bd := ⟨⟨#[120]⟩, ⟨#[113, 49]⟩, ⟨#[107]⟩, false, []⟩
def exB2 : Bd := ⟨⟨#[121]⟩, ⟨#[113, 50]⟩, ⟨#[]⟩, false, []⟩
def exB3 : Bd := ⟨⟨#[121]⟩, ⟨#[113, 49]⟩, ⟨#[]⟩, false, []⟩
def exB4 : Bd := ⟨⟨#[120]⟩, ⟨#[113, 49]⟩, ⟨#[107]⟩, true, []⟩
def exL2 : List Ex := [exX2, exX1]
def exBs : List Bd := [exB1, exB2, exB3]
theorem de1 : declR [] exX1 = ([exX1], 0) := by kernel_rfl
theorem de2 : declR [exX1] exX2 = (exL2, 0) := by kernel_rfl
theorem bi1 : bindR exL2 [] exB1 = ([exB1], 0) := by kernel_rfl
theorem bi2 : bindR exL2 [exB1] exB2 = ([exB1, exB2], 0) := by kernel_rfl
theorem bi3 : bindR exL2 [exB1, exB2] exB3 = (exBs, 0) := by kernel_rfl
theorem bi4 : bindR exL2 exBs exB4 = ([], 28) := by kernel_rfl
theorem ck1 : ckR exL2 exBs = 0 := by kernel_rfl
theorem mt1 : mtR ⟨#[97, 46, 35, 46, 99]⟩ ⟨#[97, 46, 99]⟩ = true := by kernel_rfl
theorem mt2 : mtR ⟨#[97, 46, 42, 46, 99]⟩ ⟨#[97, 46, 99]⟩ = false := by kernel_rfl
theorem mt3 : mtR ⟨#[35]⟩ ⟨#[]⟩ = true := by kernel_rfl
theorem mt4 : mtR ⟨#[]⟩ ⟨#[97]⟩ = false := by kernel_rfl
theorem ro1 : routeR exL2 exBs ⟨#[120]⟩ ⟨#[107]⟩ [] = ([⟨#[113, 49]⟩], 0) := by kernel_rfl
theorem so2 : sortR [⟨#[113, 50]⟩, ⟨#[113, 49]⟩] = [⟨#[113, 49]⟩, ⟨#[113, 50]⟩] := by
  have e : ([⟨#[113, 50]⟩, ⟨#[113, 49]⟩] : List ByteArray).map dl = [[113, 50], [113, 49]] := rfl
  have h : decide (([113, 50] : List UInt8) ≤ [113, 49]) = false := by decide
  unfold sortR
  rw [e]
  simp [List.mergeSort, h]
  exact ⟨rfl, rfl⟩
theorem co2 : compR [⟨#[113, 49]⟩, ⟨#[113, 50]⟩] = [⟨#[113, 49]⟩, ⟨#[113, 50]⟩] := by kernel_rfl
theorem re2 : reachR exL2 exBs ⟨#[106]⟩ [] (exL2.length + 1) [] ⟨#[120]⟩ = [⟨#[113, 50]⟩, ⟨#[113, 49]⟩] := by kernel_rfl
theorem pr2 : propsR [] = 0 := rfl
theorem ge2 : getE exL2 ⟨#[120]⟩ = some exX2 := by kernel_rfl
theorem ro2 : routeR exL2 exBs ⟨#[120]⟩ ⟨#[106]⟩ [] = ([⟨#[113, 49]⟩, ⟨#[113, 50]⟩], 0) := by
  unfold routeR
  rw [if_neg (by decide), if_neg (by decide), if_neg (by decide), if_neg (by decide), ge2, re2, so2, co2]
theorem ro3 : routeR exL2 exBs ⟨#[]⟩ ⟨#[113]⟩ [] = ([⟨#[113]⟩], 0) := by kernel_rfl
theorem ro4 : routeR exL2 exBs ⟨#[122]⟩ ⟨#[107]⟩ [] = ([], 8) := by kernel_rfl

theorem ascE_nil : AscE [] := fun i j x y hx => by simp at hx
theorem ascE_one (a : Ex) : AscE [a] := fun i j x y hx hy hij => by
  have h1 := (List.getElem?_eq_some_iff.1 hy).1
  simp at h1
  omega
theorem ascE_two {a b : Ex} (h : ltS a.nm b.nm = true) : AscE [a, b] := fun i j x y hx hy hij => by
  have h1 := (List.getElem?_eq_some_iff.1 hy).1
  simp at h1
  obtain rfl : i = 0 := by omega
  obtain rfl : j = 1 := by omega
  simp at hx hy
  subst hx
  subst hy
  exact h
theorem asc2 : AscE exL2 := ascE_two (by decide)
theorem few_of {ys : List BE} {bs : List Bd} (h : ys.map BE.d = bs) (hm : ∀ b ∈ bs, b.ml = []) : Few ys := fun y hy => by
  have := hm y.d (by rw [← h]; exact List.mem_map_of_mem hy)
  rw [this]; simp
theorem len_of {ys : List BE} {bs : List Bd} (h : ys.map BE.d = bs) : ys.length = bs.length := by rw [← h, List.length_map]
theorem rtn_ones {B : Nat} {w : World} {v1 v2 : Value} {l : List Ex} {ys : List BE} (h : RtN B w v1 l v2 ys) : ∀ u ∈ [v1, v2], u.oneCell' = true := by
  obtain ⟨A1, c1, A2, c2, rfl, rfl, _⟩ := h.ret
  exact ones rfl
theorem stepDe {l l' : List Ex} {bs : List Bd} {x : Ex} (hd : declR l x = (l', 0)) (ha : AscE l) (hl : l.length ≤ 1000) (hb : bs.length ≤ 1000) (hm : ∀ b ∈ bs, b.ml = []) {B : Nat} {w : World} {v1 v2 : Value} {ys : List BE} (hys : ys.map BE.d = bs) (h : RtN B w v1 l v2 ys) :
    Calls Tryz.prog 10 #[.agg #[v1, v2], exV x] w fun e w' => ∃ u1 u2 zs, e = .returned (.tuple #[.agg #[u1, u2], .int .i64 0]) ∧ zs.map BE.d = bs ∧ RtN w.heap.size w' u1 l' u2 zs ∧ Below w.heap.size w w' := by
  obtain ⟨A1, c1, A2, c2, rfl, rfl, _, _, h1, h2, _⟩ := h.ret
  have hlen := len_of hys
  have hc := xDeclare_any A1 c1 l A2 c2 ys x w h1 h2 (few_of hys hm) (by omega) (by omega) ha
  unfold RetDe at hc
  rw [hd, hys] at hc
  refine hc.mono ?_
  rintro e w' ⟨u1, u2, zs, he, hz, hr, hbl⟩
  exact ⟨u1, u2, zs, he, by rw [hz, if_pos rfl], hr, hbl⟩
theorem stepBi {l : List Ex} {bs bs' : List Bd} {b : Bd} {k : Int} (hd : bindR l bs b = (bs', k)) (ha : AscE l) (hl : l.length ≤ 1000) (hb : bs.length ≤ 1000) (hm : ∀ b ∈ bs, b.ml = []) (hbm : b.ml = []) {B : Nat} {w : World} {v1 v2 : Value} {ys : List BE} (hys : ys.map BE.d = bs) (h : RtN B w v1 l v2 ys) :
    Calls Tryz.prog 12 #[.agg #[v1, v2], bdV ⟨b, none, 0⟩] w fun e w' => ∃ u1 u2 zs, e = .returned (.tuple #[.agg #[u1, u2], .int .i64 k]) ∧ zs.map BE.d = bs' ∧ RtN w.heap.size w' u1 (if k = 0 then l else []) u2 zs ∧ Below w.heap.size w w' := by
  obtain ⟨A1, c1, A2, c2, rfl, rfl, _, _, h1, h2, _⟩ := h.ret
  have hlen := len_of hys
  have hc := xBind_any A1 c1 l A2 c2 ys ⟨b, none, 0⟩ w h1 h2 (few_of hys hm) (by omega) (by omega) ha ⟨by show GL _ _ _ _ _ b.ml; rw [hbm]; exact GL.nil _ _ _, by show b.ml.length ≤ _; rw [hbm]; simp⟩
  unfold RetBi at hc
  rw [hys] at hc
  dsimp only at hc
  rw [hd] at hc
  refine hc.mono ?_
  rintro e w' ⟨u1, u2, zs, he, hz, hr, hbl⟩
  exact ⟨u1, u2, zs, he, hz, hr, hbl⟩
theorem stepCk {l : List Ex} {bs : List Bd} (hm : ∀ b ∈ bs, b.ml = []) {B : Nat} {w : World} {v1 v2 : Value} {ys : List BE} (hys : ys.map BE.d = bs) (h : RtN B w v1 l v2 ys) :
    Calls Tryz.prog 28 #[.agg #[v1, v2]] w fun e w' => e = .returned (.int .i64 (ckR l bs)) ∧ Below w.heap.size w w' := by
  obtain ⟨A1, c1, A2, c2, rfl, rfl, _, hc2, h1, h2, _⟩ := h.ret
  have hc := xCheck_any A1 c1 l A2 c2 ys w h1 h2 hc2 (few_of hys hm)
  rw [hys] at hc
  exact hc
theorem stepRo {l : List Ex} {bs : List Bd} {ex key : ByteArray} {q : List ByteArray × Int} (hq : routeR l bs ex key [] = q) (ha : AscE l) (hk : ∀ x ∈ l, KO x.kd) (hl : l.length ≤ 1000) (hb : bs.length ≤ 1000) {B : Nat} {w : World} {v1 v2 : Value} {ys : List BE} (hys : ys.map BE.d = bs) (h : RtN B w v1 l v2 ys) :
    Calls Tryz.prog 19 #[.agg #[v1, v2], .string ex, .string key, .slice none 0 0] w (RetRu q w) := by
  obtain ⟨A1, c1, A2, c2, rfl, rfl, _, _, h1, h2, _⟩ := h.ret
  have hlen := len_of hys
  have hc := Route_any A1 c1 l A2 c2 ys ex key [] none 0 w h1 ha hk (by omega) h2 (by omega) (GL.nil _ _ _)
  rw [hys, hq] at hc
  exact hc
theorem bk_tl {T : TypeId} {w : World} {g : Nat} {xs : List ByteArray} (h : BK T w g (xs.map Value.string)) : TL w w.heap.size (some ⟨g, 0, none⟩) xs := fun _ => ⟨g, 0, rfl, h.lt, fun j x i v hx hv => by
  have hi : i = 0 := by
    have := (List.getElem?_eq_some_iff.1 hv).1
    simp [gT] at this
    exact this
  subst hi
  have hv2 : v = .string x := by simpa [gT] using hv.symm
  subst hv2
  refine h.cell _ ?_
  simp [hx]⟩
theorem TL.cells {w : World} {B b o : Nat} {xs : List ByteArray} (h : TL w B (some ⟨b, o, none⟩) xs) (j : Nat) (hj : j < xs.length) : w.cell? ⟨b, o + j, none⟩ = some (.string (xs.getD j ByteArray.empty)) := by
  obtain ⟨b', o', e, _, hc⟩ := h (by omega)
  simp only [Option.some.injEq, Addr.mk.injEq, and_true] at e
  obtain ⟨rfl, rfl⟩ := e
  have := hc j (xs.getD j ByteArray.empty) 0 _ (by rw [List.getD_eq_getElem?_getD, List.getElem?_eq_getElem hj]; rfl) rfl
  rw [Nat.mul_one, Nat.add_zero] at this
  exact this
theorem eqT_same {A1 A2 : Option Addr} {c1 c2 B1 B2 : Nat} {xs : List ByteArray} {w : World} (h1 : TL w B1 A1 xs) (h2 : TL w B2 A2 xs) (hn : 0 < xs.length) (hb : xs.length ≤ 1000000) :
    Calls Tryz.prog 21 #[.slice A1 xs.length c1, .slice A2 xs.length c2] w fun e w' => e = .returned (.bool true) ∧ Below w.heap.size w w' := by
  obtain ⟨b1, o1, rfl, _⟩ := h1 hn
  obtain ⟨b2, o2, rfl, _⟩ := h2 hn
  refine (Tryz.slices_Equal_string b1 o1 xs.length c1 b2 o2 xs.length c2 xs xs w (Nat.le_refl _) (Nat.le_refl _) (by omega) (by omega) (TL.cells h1) (TL.cells h2)).mono ?_
  rintro e w' ⟨rfl, q, rfl⟩
  exact ⟨by simp, S2.bDN w q⟩
end Go.Proofs.YtjkhfifnfgchgabGreatDoor
