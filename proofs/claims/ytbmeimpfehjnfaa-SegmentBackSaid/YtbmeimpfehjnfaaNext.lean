/-
  What Next of frame answers. Conditions: the position fits an int; so many bytes fit a slice.
-/
import Derived.Test.YtbmeimpfehjnfaaFrame2
namespace Go.Proofs.Ytbmeimpfehjnfaa
open Go.RowKit

def bodyR (l : List UInt8) (s n : Nat) : List UInt8 := (l.drop (s + 4)).take n
def nextR (l : List UInt8) (p : Int) : List UInt8 × Int × Int :=
  if (countR l p 65536).2.2 ≠ 0 then ([], 0, (countR l p 65536).2.2)
  else if (l.length : Int) < (countR l p 65536).2.1 + 4 + (countR l p 65536).1 then ([], 0, 3)
  else if sum4 (sumR (bodyR l (countR l p 65536).2.1.toNat (countR l p 65536).1.toNat)) ≠ (l.drop (countR l p 65536).2.1.toNat).take 4 then ([], 0, 4)
  else (bodyR l (countR l p 65536).2.1.toNat (countR l p 65536).1.toNat, (countR l p 65536).2.1 + 4 + (countR l p 65536).1, 0)

theorem sum4_be {h : Nat} (hh : h < 4294967296) {q : List UInt8} (hq : q.length = 4) : sum4 h = q ↔ h = beR q := by
  obtain ⟨a, b, c, d, rfl⟩ : ∃ a b c d, q = [a, b, c, d] := by
    match q, hq with
    | [a, b, c, d], _ => exact ⟨a, b, c, d, rfl⟩
  have ha := a.toNat_lt
  have hb := b.toNat_lt
  have hc := c.toNat_lt
  have hd := d.toNat_lt
  have e : beR [a, b, c, d] = ((a.toNat * 256 + b.toNat) * 256 + c.toNat) * 256 + d.toNat := by
    show (((0 * 256 + a.toNat) * 256 + b.toNat) * 256 + c.toNat) * 256 + d.toNat = _
    omega
  rw [e]
  unfold sum4
  constructor
  · intro h
    simp only [List.cons.injEq, and_true] at h
    obtain ⟨h1, h2, h3, h4⟩ := h
    subst h1; subst h2; subst h3; subst h4
    simp only [UInt8.toNat_ofNat']
    omega
  · intro hx
    have h1 : UInt8.ofNat (h / 16777216) = a := UInt8.toNat_inj.1 (by rw [UInt8.toNat_ofNat']; omega)
    have h2 : UInt8.ofNat (h / 65536) = b := UInt8.toNat_inj.1 (by rw [UInt8.toNat_ofNat']; omega)
    have h3 : UInt8.ofNat (h / 256) = c := UInt8.toNat_inj.1 (by rw [UInt8.toNat_ofNat']; omega)
    have h4 : UInt8.ofNat h = d := UInt8.toNat_inj.1 (by rw [UInt8.toNat_ofNat']; omega)
    rw [h1, h2, h3, h4]

def RetN (r : List UInt8 × Int × Int) (W : World) (e : Ending) (w' : World) : Prop :=
  ∃ v, e = .returned (.tuple #[v, .int .i64 r.2.1, .int .i64 r.2.2]) ∧ Own 5 bv w' W.heap.size v r.1 ∧ Below W.heap.size W w'
theorem below_drewN' (w : World) (n : Nat) : Below w.heap.size w (w.drewN n) := by
  induction n with
  | zero => exact Below.refl _ _
  | succ n ih => exact ih.drew

theorem own_copied {w' : World} {g B cap : Nat} {cur : List Value} {xs : List UInt8} (hg' : w'.heap[g]? = some (.cells (splice cur 0 (xs.map bv)).toArray 5)) (hB : B ≤ g) (hcl : cur.length = cap) (hx : xs.length ≤ cap) (hm : cap ≤ 140737488355328) :
    Own 5 bv w' B (.slice (some ⟨g, 0, none⟩) xs.length cap) xs := by
  have hl := length_splice cur 0 (xs.map bv) (by simp; omega)
  refine ⟨by simp, .inr ⟨g, cap, _, rfl, hB, hg', hx, by unfold maxLen; omega, ?_, ?_⟩⟩
  · rw [List.size_toArray, hl]; omega
  · unfold splice
    rw [List.take_zero, List.nil_append, Nat.mul_one]
    exact (List.take_left' (by simp))
/-- a fresh slice of n bytes -/
theorem made_full (w : World) (n : Nat) (hn : n ≤ 140737488355328) : ∃ cur : List Value, cur.length = n ∧ (Instr.makeSlice 22 (.int .i64 (n : Int)) (.int .i64 (n : Int))).run Try.prog w = .ok (.slice (some ⟨w.heap.size, 0, none⟩) n n) (w.alloc (.cells cur.toArray 5)) := by
  obtain ⟨i, hi, hz, hz1, hz2⟩ := info_parts infoU8
  refine ⟨(madeCells (Value.int .u8 0).cells (n * i.size)).toList, by rw [Array.length_toList, size_madeCells, hz1, Nat.mul_one], ?_⟩
  have hr := run_make (P := Try.prog) w 22 5 i (.int .u8 0) Try.underlying22 hi hz .i64 .i64 n n (by omega) (by omega) (by rw [hz2]; omega) (by omega)
  have e1 : ((n : Int)).toNat = n := by omega
  rw [e1] at hr
  rw [hr]
theorem copy_from {w : World} {A : Option Addr} {xs : List UInt8} (hsl : CL bv w w.heap.size A xs) (o : Obj) (g : Nat) :
    0 < (xs.map bv).length → (some ⟨g, 0, none⟩ : Option Addr) = some ⟨g, 0, none⟩ ∧ ∃ ad, A = some ad ∧ ∀ (j : Nat) (v : Value), (xs.map bv)[j]? = some v → (w.alloc o).cell? (ad.add j) = some v := fun h0 => by
  rw [List.length_map] at h0
  obtain ⟨b, o', rfl, hb, hc⟩ := hsl h0
  refine ⟨rfl, _, rfl, fun j v hj => ?_⟩
  rw [List.getElem?_map] at hj
  cases hx : xs[j]? with
  | none => rw [hx] at hj; cases hj
  | some x =>
    rw [hx] at hj
    obtain rfl := Option.some.inj hj
    have := hc j x hx
    have h2 : (w.alloc o).cell? ⟨b, o' + j, none⟩ = some (bv x) := by rw [((Below.refl w.heap.size w).alloc (Nat.le_refl _) _).cell hb]; exact this
    unfold Addr.add
    split
    · next h0 => subst h0; exact h2
    · exact h2

set_option maxHeartbeats 2000000 in
theorem next_any (A : Option Addr) (c : Nat) (l : List UInt8) (p : Int) (hp1 : -9223372036854775808 ≤ p) (hp2 : p ≤ 9223372036854775807) (w : World) (hsl : CL bv w w.heap.size A l) (hc : l.length ≤ c) (hn : l.length ≤ 140737488355328) :
    Calls Try.prog 47 #[.slice A l.length c, .int .i64 p] w (RetN (nextR l p) w) := by
  have hcn := num_any A c l p hp1 hp2 w _ hsl hc hn
  have hok := fun n nx => @numR_ok l p n nx
  unfold nextR
  obtain ⟨cr, hcr⟩ : ∃ cr, cr = countR l p 65536 := ⟨_, rfl⟩
  rw [← hcr]
  unfold countR at hcr
  generalize numR l p = r at hcn hok hcr
  obtain ⟨n, nx, e⟩ := r
  have HC := Lib.hid hcn
  clear hcn hp1 hp2
  dsimp only at hcr
  by_cases he : e = 0
  · subst he
    obtain ⟨k, j, q1, rfl, q2, q3, hkj, hn1, hn2, q5⟩ := hok n nx rfl
    clear hok q1 q2 q3 q5
    rw [if_neg (by simp)] at hcr
    generalize k + j = s at *
    by_cases h0 : n < 0
    · rw [if_pos h0] at hcr
      subst hcr
      dsimp only
      rw [if_pos (by decide)]
      clear hsl
      go_enter Try.func47, Try.ntmps47
      go_wp2_with fail
      refine HC.out.mono ?_
      rintro e w' ⟨rfl, rfl⟩
      unfold tri
      go_wp2
      go_ret3
      exact ⟨_, rfl, Own.nil _ _, Below.refl _ _⟩
    · rw [if_neg h0] at hcr
      by_cases h6 : 65536 < n
      · rw [if_pos h6] at hcr
        subst hcr
        dsimp only
        rw [if_pos (by decide)]
        clear hsl
        go_enter Try.func47, Try.ntmps47
        go_wp2_with fail
        refine HC.out.mono ?_
        rintro e w' ⟨rfl, rfl⟩
        unfold tri
        go_wp2
        go_ret3
        exact ⟨_, rfl, Own.nil _ _, Below.refl _ _⟩
      · rw [if_neg h6] at hcr
        subst hcr
        dsimp only
        rw [if_neg (by simp)]
        obtain ⟨m, rfl⟩ := Int.eq_ofNat_of_zero_le (by omega : 0 ≤ n)
        by_cases ht : (l.length : Int) < (s : Int) + 4 + (m : Int)
        · rw [if_pos ht]
          clear hsl
          go_enter Try.func47, Try.ntmps47
          go_wp2_with fail
          refine HC.out.mono ?_
          rintro e w' ⟨rfl, rfl⟩
          unfold tri
          go_wp2
          go_ret3
          exact ⟨_, rfl, Own.nil _ _, Below.refl _ _⟩
        · rw [if_neg ht]
          rw [Int.toNat_natCast, Int.toNat_natCast]
          have hlen : s + 4 + m ≤ l.length := by omega
          obtain ⟨A2, hs2, hcl2⟩ := slice_lhm A c l (s + 4) (s + 4 + m) (by omega) hlen hc
          obtain ⟨A3, hs3, hcl3⟩ := slice_lh A c l s (s + 4) (by omega) (by omega) hc
          have e4 : ((s + 4 : Nat) : Int) = (s : Int) + 4 := by omega
          have e5 : ((s + 4 + m : Nat) : Int) = (s : Int) + 4 + (m : Int) := by omega
          rw [e5, e4, show s + 4 + m - (s + 4) = m by omega] at hs2
          rw [e4, show s + 4 - s = 4 by omega] at hs3
          rw [show s + 4 + m - (s + 4) = m by omega] at hcl2
          rw [show s + 4 - s = 4 by omega] at hcl3
          have hbl : ((l.drop (s + 4)).take m).length = m := by rw [List.length_take, List.length_drop]; omega
          have hql : ((l.drop s).take 4).length = 4 := by rw [List.length_take, List.length_drop]; omega
          have HS2 := Lib.hid (hcl2 w _ hsl)
          have HS3 := Lib.hid (hcl3 w _ hsl)
          unfold bodyR
          generalize (l.drop (s + 4)).take m = body at *
          generalize (l.drop s).take 4 = q at *
          rw [hbl] at hs2
          rw [hql] at hs3
          have HSum := Lib.hid (fun n => sum_any A2 m body (w.drewN n) w.heap.size (HS2.out.below (below_drewN' w n)) (by omega) |>.mono fun _ _ ⟨h1, h2⟩ => (⟨h1, h2.symm⟩ : _ ∧ _ = w.drewN n))
          rw [hbl] at HSum
          have HBe := Lib.hid (fun n => bigEndian_any A3 (c - s) q (w.drewN n) w.heap.size (HS3.out.below (below_drewN' w n)) (by omega) |>.mono fun _ _ ⟨h1, h2⟩ => (⟨h1, h2.symm⟩ : _ ∧ _ = w.drewN n))
          rw [hql] at HBe
          have hiff := sum4_be (sumR_lt body) hql
          clear hcl2 hcl3 hsl e4 e5
          by_cases hsum : sum4 (sumR body) = q
          · rw [if_neg (by simpa using hsum)]
            have hse : sumR body = beR q := hiff.1 hsum
            rw [hse] at HSum
            have HBL := Lib.hid hbl
            clear hsum hiff hse hbl hql
            generalize beR q = h at HSum HBe
            go_enter Try.func47, Try.ntmps47
            go_wp2_with fail
            refine HC.out.mono ?_
            rintro e w' ⟨rfl, rfl⟩
            unfold tri
            go_wp2_with fail
            go_quiet ((first | (go_at_call 53; exact Calls.quiet_of_same (HSum.out _)) | (go_at_call 59; exact Calls.quiet_of_same (HBe.out _))))
            have hbq := below_drewN' w nq
            have hslq := HS2.out.step hbq
            generalize w.drewN nq = w2 at hbq hslq ⊢
            obtain ⟨cur, hcur, hmk⟩ := made_full w2 m (by omega)
            have HP := Lib.hid (copy_from hslq (.cells cur.toArray 5) w2.heap.size)
            have HG : Hid ((w2.alloc (.cells cur.toArray 5)).heap[w2.heap.size]? = some (.cells cur.toArray 5)) := Lib.hid (heap_alloc_new w2 _)
            have HB2 := Lib.hid hbq.size
            have HBA := Lib.hid (hbq.alloc hbq.size (.cells cur.toArray 5))
            clear hslq hbq HSum HBe HC HS2 HS3
            go_wp2_with (with_reducible refine wpList_copy_splice rfl (.tmp 59) (.tmp 60) 22 22 rfl 5 Try.underlying22 sizeU8 (some ⟨w2.heap.size, 0, none⟩) A2 m m m m rfl rfl w2.heap.size 0 cur 5 HG.out (body.map bv) (by have := HBL.out; simp; omega) HP.out (by have := HBL.out; simp; omega) (bvs_one body) w.heap.size w HBA.out HB2.out ?_; intro w' hg' hb')
            go_ret3
            have hown := own_copied (xs := body) hg'.out HB2.out hcur (by have := HBL.out; omega) (by omega)
            rw [HBL.out] at hown
            exact ⟨_, rfl, hown, hb'⟩
          · rw [if_pos (by simpa using hsum)]
            have hne : ((sumR body : Int) != (beR q : Int)) = true := by
              have : ¬ sumR body = beR q := fun h => hsum (hiff.2 h)
              simp
              omega
            clear hsum hiff hbl hql
            generalize sumR body = h1 at HSum hne
            generalize beR q = h2 at HBe hne
            go_enter Try.func47, Try.ntmps47
            go_wp2_with fail
            refine HC.out.mono ?_
            rintro e w' ⟨rfl, rfl⟩
            unfold tri
            go_wp2_with fail
            go_quiet ((first | (go_at_call 53; exact Calls.quiet_of_same (HSum.out _)) | (go_at_call 59; exact Calls.quiet_of_same (HBe.out _))))
            have hbq := below_drewN' w nq
            generalize w.drewN nq = w2 at hbq ⊢
            go_wp2
            go_ret3
            exact ⟨_, rfl, Own.nil _ _, hbq⟩
  · rw [if_pos he] at hcr
    subst hcr
    dsimp only
    rw [if_pos he]
    have hb : (e != 0) = true := by simp [he]
    clear he hok hsl
    go_enter Try.func47, Try.ntmps47
    go_wp2_with fail
    refine HC.out.mono ?_
    rintro e w' ⟨rfl, rfl⟩
    unfold tri
    go_wp2
    go_ret3
    exact ⟨_, rfl, Own.nil _ _, Below.refl _ _⟩

end Go.Proofs.Ytbmeimpfehjnfaa
