/-
  What Cancel of brokerref18 answers, and the walk of WillCancels. Conditions: the list reads as data; its texts and lists fit a machine; the library's bound on short texts holds a number.
-/
import Derived.Test.YtgnbiicfabldbaaDoorDm
namespace Go.Proofs.YtgnbiicfabldbaaDoor
open Go.RowKit
open S2 (BK Put)

def offR (l : List Du) (cl : ByteArray) : List Du := l.filter (fun x => !decide (x.cl = cl))
set_option maxRecDepth 20000 in
set_option maxHeartbeats 4000000 in
theorem rCancel_any (A : Option Addr) (c : Nat) (xs : List DE) (cl : ByteArray) (w : World) (hsl : DI w w.heap.size A xs) (hn : xs.length ≤ 90000) :
    Calls Tryd.prog 20 #[.slice A xs.length c, .string cl] w (RetDB (offR (xs.map DE.d) cl) (decide ((offR (xs.map DE.d) cl).length < xs.length)) w) := by
  have HS := Lib.hid hsl
  clear hsl
  go_enter Tryd.func20, Tryd.ntmps20
  go_wp2_with fail
  go_loopg [6, 7] xs.length (fun g u6 v wr => ∃ (k : Nat) (fs : List DE), k + g = xs.length ∧ v = .int .i64 k ∧ fs.map DE.d = offR ((xs.map DE.d).take k) cl ∧ fs.length ≤ k ∧ (∀ x ∈ fs, x ∈ xs) ∧ OwnD wr w.heap.size u6 fs ∧ Below w.heap.size w wr)
  case atStart => exact ⟨0, [], by omega, rfl, rfl, Nat.le_refl _, (fun x h => by cases h), OwnG.nil _ _, Below.refl _ _⟩
  case round =>
    obtain ⟨k, fs, hkg, rfl, hfs, hfl, hin, hown, hb0⟩ := hrel
    have HF := Lib.hid hfs
    have HFL := Lib.hid hfl
    have HIN := Lib.hid hin
    have HO := Lib.hid hown
    have HB0 := Lib.hid hb0
    have HK := Lib.hid hkg
    clear hfs hfl hin hown hb0
    cases gk with
    | zero =>
      obtain rfl : k = xs.length := by omega
      obtain ⟨A1, c1, rfl, hc1, hgl⟩ := OwnG.ret gD_len HO.out
      have e9 : (xs.map DE.d).take xs.length = xs.map DE.d := List.take_of_length_le (by simp)
      have HFX : Hid (fs.map DE.d = offR (xs.map DE.d) cl) := Lib.hid (by rw [HF.out, e9])
      obtain ⟨nf, hnf⟩ : ∃ n, n = fs.length := ⟨_, rfl⟩
      have HNF : Hid ((offR (xs.map DE.d) cl).length = nf) := Lib.hid (by rw [← HFX.out, List.length_map, hnf])
      have HL := Lib.hid (And.intro hc1 (show DI wr wr.heap.size A1 fs from ⟨hgl, fun x hx => (HS.out.2 x (HIN.out x hx)).below HB0.out |>.more HB0.out.size⟩))
      have HNE := Lib.hid hnf
      have hi : decide ((nf : Int) < (xs.length : Int)) = decide (nf < xs.length) := by
        rw [Bool.eq_iff_iff, decide_eq_true_eq, decide_eq_true_eq]; omega
      rw [← hnf]
      clear hkg hc1 hgl e9 hnf
      go_wp2
      go_ret2
      refine ⟨A1, c1, fs, ?_, HFX.out, HL.out.1, HL.out.2, HB0.out⟩
      rw [HNF.out, ← HNE.out]
      first
        | rfl
        | (rw [← hi]; rfl)
    | succ gk =>
      have hlt : k < xs.length := by omega
      have e3 : decide ((k : Int) < (xs.length : Int)) = true := decide_eq_true (by omega)
      have e3' : decide (k < xs.length) = true := decide_eq_true hlt
      obtain ⟨x, hx⟩ : ∃ x, xs[k]? = some x := ⟨_, List.getElem?_eq_getElem hlt⟩
      obtain ⟨b, o, hA, hbB, hc, hpl⟩ := (HS.out.step HB0.out).at_ hx
      have HLD := Lib.hid (load_due hc)
      have hxm : (xs.map DE.d)[k]? = some x.d := by rw [List.getElem?_map, hx]; rfl
      have HXM := Lib.hid (And.intro hxm (List.mem_of_getElem? hx))
      have d0 : wr.cell? ⟨b, o + k * 11, none⟩ = some (.string x.d.cl) := by have := hc 0 _ rfl; simpa using this
      subst hA
      have j1 : (0 : Int) ≤ (k : Int) := by omega
      have j2 : (k : Int) < (xs.length : Int) := by omega
      have hlk : k ≤ 90000 := by omega
      have q0 := str_eqb x.d.cl cl
      have q0' : (x.d.cl.toList != cl.toList) = !decide (x.d.cl = cl) := by unfold bne; rw [q0]
      clear hx hc hpl hbB hkg hxm
      by_cases he : x.d.cl = cl
      · have q9 : decide (x.d.cl = cl) = true := decide_eq_true he
        rw [q9] at q0 q0'
        have HQ := Lib.hid q9
        clear he
        go_wp2_with fail
        go_roundg gk
        case measure => omega
        case rel => exact ⟨k + 1, fs, by have := HK.out; omega, by go_num, by rw [HF.out, List.take_add_one, HXM.out.1]; simp [offR, HQ.out], by have := HFL.out; omega, HIN.out, HO.out, HB0.out⟩
      · have q9 : decide (x.d.cl = cl) = false := decide_eq_false he
        rw [q9] at q0 q0'
        have HQ := Lib.hid q9
        clear he
        unfold dV gD at HLD
        go_wp2_with first
          | (refine wpList_load_v (by rfl) 51 _ rfl ⟨b, o + k * 11, none⟩ (by go_simp) _ HLD.out ?_)
          | (at_builtin; refine wpList_app1 gD_len gD_one (by decide) wr rfl _ _ 31 rfl (.agg (gD DE.zero).toArray) 136 Tryd.underlying31 dueInfo rfl (by decide) w.heap.size u6 fs x (by rfl) HO.out (by rfl) w HB0.out HB0.out.size (by have := HFL.out; omega) ?_; intro v5 w5 hown5 hb5 hs5)
        have O5 := Lib.hid hown5
        have B5 := Lib.hid hb5
        clear hown5 hb5 hs5
        go_roundg gk
        case measure => omega
        case rel => exact ⟨k + 1, fs ++ [x], by have := HK.out; omega, by go_num, by rw [List.map_append, HF.out, List.take_add_one, HXM.out.1]; simp [offR, HQ.out], by have := HFL.out; simp; omega, (fun y hy => by
          rcases List.mem_append.1 hy with hy | hy
          · exact HIN.out y hy
          · simp at hy; subst hy; exact HXM.out.2), O5.out, B5.out⟩
end Go.Proofs.YtgnbiicfabldbaaDoor
