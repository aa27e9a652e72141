/-
  What Set of the specification answers: the list with the value, or the error. Conditions: the list reads as data; lengths fit an int.
-/
import Derived.Test.YtlkkdompcbdbeaaDoorSet
namespace Go.Proofs.YtlkkdompcbdbeaaDoor
open Go.RowKit

theorem filt_yes {p : PR → Bool} {l : List PR} {k : Nat} {x : PR} (hx : l[k]? = some x) (hp : p x = true) : (l.take (k + 1)).filter p = (l.take k).filter p ++ [x] := by
  rw [List.take_add_one, hx, List.filter_append]
  simp [hp]
theorem filt_no {p : PR → Bool} {l : List PR} {k : Nat} {x : PR} (hx : l[k]? = some x) (hp : p x = false) : (l.take (k + 1)).filter p = (l.take k).filter p := by
  rw [List.take_add_one, hx, List.filter_append]
  simp [hp]
theorem filt_len (p : PR → Bool) (l : List PR) (k : Nat) : ((l.take k).filter p).length ≤ l.length := Nat.le_trans (List.length_filter_le _ _) (by rw [List.length_take]; omega)

section
variable {ops : Array Oper} {rest : List Oper} {o : Oper} {a : Act} {Q : Exit → Act → World → Prop}
/-- append of one property that was just laid in a block of its own -/
theorem wpList_appP1 (wr : World) (hgd : o.guard = none) (s x : Operand) (ho : o.op = .call { callee := .builtin .append, args := #[s, x], argTypes := #[22, 22] })
    (B : Nat) (v : Value) (xs : List PR) (k u : ByteArray) (hown : OwnP wr B v xs) (hs : a.eval s = v) (hx : a.eval x = .slice (some ⟨wr.heap.size, 0, none⟩) 1 1) (w0 : World) (hb : Below B w0 wr) (hB : B ≤ wr.heap.size)
    (hn : xs.length ≤ 100000) (h : ∀ v' w', OwnP w' B v' (xs ++ [(k, u)]) → Below B w0 w' → B ≤ w'.heap.size → wpList Tryd.prog ops Q rest (a.put o.dst v') w') : wpList Tryd.prog ops Q (o :: rest) a (wr.alloc (.cells #[.string k, .string u] 34)) :=
  wpList_appG (g := gP) (k := 2) (e := 34) (by decide) (wr.alloc (.cells (gP (k, u)).toArray 34)) hgd s x 22 22 ho (.agg #[.string ByteArray.empty, .string ByteArray.empty]) 32 Tryd.underlying22 infoP rfl (by decide) B v xs [(k, u)] hs (hown.alloc _) _ hx (srcG_one gP_len gP_one Tryd.underlying22 wr (k, u)) w0 (hb.alloc hB _) (by simp; omega) (by simp; omega) h
end

set_option maxRecDepth 20000 in
set_option maxHeartbeats 8000000 in
theorem rSet_tail (A : Option Addr) (c : Nat) (l : List PR) (key value : ByteArray) (w : World) (hsl : PL w w.heap.size A l) (h0 : propsR l = 0) (h1 : keyR key = true) (h2 : ¬ 160 < value.size) (h8 : ¬ (l.length = 8 ∧ (getR l key).2 = false)) (hz : ∀ x ∈ l, x.1.size ≤ 9223372036854775807) (hk : key.size ≤ 9223372036854775807) :
    Calls Tryd.prog 19 #[.slice A l.length c, .string key, .string value] w (RetSet (setL l key value, 0) w) := by
  have HS := Lib.hid hsl
  have CP := Lib.hid (vProps_any A c l w hsl hz)
  have CK := Lib.hid (fun w => vKey_any key w hk)
  obtain ⟨hl8, _, _⟩ := propsR_parts h0
  have CG := Lib.hid (fun w h => rGet_any A c l key w h (by omega))
  rw [h0] at CP
  rw [h1] at CK
  unfold retG at CG
  unfold setL
  obtain ⟨F1, hF1⟩ : ∃ F : Nat → List PR, F = fun k => (l.take k).filter fun x => ltS x.1 key := ⟨_, rfl⟩
  obtain ⟨F2, hF2⟩ : ∃ F : Nat → List PR, F = fun k => (l.take k).filter fun x => ltS key x.1 := ⟨_, rfl⟩
  have H1e : Hid (F1 l.length = l.filter fun x => ltS x.1 key) := Lib.hid (by rw [hF1]; simp only [List.take_length])
  have H2e : Hid (F2 l.length = l.filter fun x => ltS key x.1) := Lib.hid (by rw [hF2]; simp only [List.take_length])
  have H1z : Hid (F1 0 = []) := Lib.hid (by rw [hF1]; rfl)
  have H2z : Hid (F2 0 = []) := Lib.hid (by rw [hF2]; rfl)
  have H1y : Hid (∀ k x, l[k]? = some x → ltS x.1 key = true → F1 (k + 1) = F1 k ++ [x]) := Lib.hid (fun k x hx hp => by rw [hF1]; exact filt_yes hx hp)
  have H2y : Hid (∀ k x, l[k]? = some x → ltS key x.1 = true → F2 (k + 1) = F2 k ++ [x]) := Lib.hid (fun k x hx hp => by rw [hF2]; exact filt_yes hx hp)
  have H1n : Hid (∀ k x, l[k]? = some x → ltS x.1 key = false → F1 (k + 1) = F1 k) := Lib.hid (fun k x hx hp => by rw [hF1]; exact filt_no hx hp)
  have H2n : Hid (∀ k x, l[k]? = some x → ltS key x.1 = false → F2 (k + 1) = F2 k) := Lib.hid (fun k x hx hp => by rw [hF2]; exact filt_no hx hp)
  have H1l : Hid (∀ k, (F1 k).length ≤ 8) := Lib.hid (fun k => by rw [hF1]; exact Nat.le_trans (filt_len _ l k) hl8)
  have H2l : Hid (∀ k, (F2 k).length ≤ 8) := Lib.hid (fun k => by rw [hF2]; exact Nat.le_trans (filt_len _ l k) hl8)
  clear hF1 hF2
  rw [← H1e.out, ← H2e.out]
  have q2 : decide ((160 : Int) < (value.size : Int)) = false := decide_eq_false (by omega)
  generalize getR l key = gr at CG h8
  obtain ⟨gv, gb⟩ := gr
  dsimp only at CG h8
  have H8 := Lib.hid h8
  clear h0 h1 h2 h8 hz hk hsl
  by_cases hl : l.length = 8
  case' pos =>
    have hgb : gb = true := by
      cases hg : gb
      · exact absurd ⟨hl, hg⟩ H8.out
      · rfl
    subst hgb
    have q8 : ((l.length : Int) == 8) = true := by rw [hl]; rfl
    have q8' : (l.length == 8) = true := by rw [hl]; rfl
  case' neg =>
    have q8 : ((l.length : Int) == 8) = false := by simp; omega
    have q8' : (l.length == 8) = false := by simp; omega
  all_goals
    clear hl H8
    go_enter Tryd.func19, Tryd.ntmps19
    go_wp2_with fail
    refine CP.out.mono ?_
    rintro e w1 ⟨rfl, hb1⟩
    have HB1 := Lib.hid hb1
    clear hb1
    go_wp2_with fail
    refine (CK.out _).mono ?_
    rintro e wz ⟨rfl, rfl⟩
    go_wp2_with fail
    refine (CG.out _ (HS.out.step HB1.out)).mono ?_
    rintro e w2 ⟨rfl, hb2⟩
    have HB2 := Lib.hid (stepB HB1.out hb2)
    clear hb2
    go_wp2
    go_loopg [11, 12] l.length (fun g u i wr => ∃ k : Nat, k + g = l.length ∧ i = .int .i64 k ∧ OwnP wr w.heap.size u (F1 k) ∧ Below w.heap.size w wr ∧ w.heap.size ≤ wr.heap.size)
    case atStart => exact ⟨0, by omega, rfl, by rw [H1z.out]; exact OwnG.nil _ _, HB2.out, HB2.out.size⟩
    case round =>
      obtain ⟨k, hkg, rfl, hown, hb, hsz⟩ := hrel
      have HB := Lib.hid hb
      have HG := Lib.hid hkg
      have HO := Lib.hid hown
      clear hown
      cases gk with
      | succ g =>
        have hlt : k < l.length := by omega
        have e3 : decide ((k : Int) < (l.length : Int)) = true := decide_eq_true (by omega)
        obtain ⟨x, hx⟩ : ∃ x, l[k]? = some x := ⟨_, List.getElem?_eq_getElem hlt⟩
        obtain ⟨b, o, hA, hbB, kk, kv⟩ := PL.at_ (HS.out.step hb) hx
        subst hA
        have j1 : (0 : Int) ≤ (k : Int) := by omega
        have j2 : (k : Int) < (l.length : Int) := by omega
        have hll := H1l.out k
        cases hlx : ltS x.1 key
        · have q3 : Op.bytesLess x.1.toList key.toList = false := by rw [lt_data, hlx]
          have HN := Lib.hid (H1n.out k x hx hlx)
          clear hlx hx hkg hb
          go_wp2
          go_roundg g
          case measure => omega
          case rel => exact ⟨k + 1, by have := HG.out; omega, by go_num, by rw [HN.out]; exact HO.out, HB.out, hsz⟩
        · have q3 : Op.bytesLess x.1.toList key.toList = true := by rw [lt_data, hlx]
          have HN := Lib.hid (H1y.out k x hx hlx)
          clear hlx hx hkg hb
          go_wp2_with (at_builtin; go_must (refine wpList_appP1 wr rfl _ _ rfl w.heap.size _ (F1 k) x.1 x.2 HO.out rfl rfl w HB.out hsz (by omega) ?_); intro v' w3 hown' hb' hsz')
          have HO' := Lib.hid hown'
          have HB' := Lib.hid hb'
          clear hown' hb'
          go_wp2
          go_roundg g
          case measure => omega
          case rel => exact ⟨k + 1, by have := HG.out; omega, by go_num, by rw [HN.out]; exact HO'.out, HB'.out, hsz'⟩
      | zero =>
        obtain rfl : k = l.length := by omega
        have hll := H1l.out l.length
        clear hkg hb
        go_wp2_with (at_builtin; go_must (refine wpList_appP1 wr rfl _ _ rfl w.heap.size _ (F1 l.length) key value HO.out rfl rfl w HB.out hsz (by omega) ?_); intro v' w3 hown' hb' hsz')
        have HO' := Lib.hid hown'
        have HB' := Lib.hid hb'
        clear hown' hb'
        obtain ⟨wo, rfl⟩ : ∃ wo : World, wo = wr := ⟨_, rfl⟩
        go_wp2
        go_loopg [11, 13] l.length (fun g u i wr => ∃ k : Nat, k + g = l.length ∧ i = .int .i64 k ∧ OwnP wr w.heap.size u (F1 l.length ++ [(key, value)] ++ F2 k) ∧ Below w.heap.size w wr ∧ w.heap.size ≤ wr.heap.size)
        case atStart => exact ⟨0, by omega, rfl, by rw [H2z.out, List.append_nil]; exact HO'.out, HB'.out, hsz'⟩
        case round =>
          obtain ⟨k, hkg, rfl, hown, hb, hsz2⟩ := hrel
          have HB2' := Lib.hid hb
          have HG2 := Lib.hid hkg
          have HO2 := Lib.hid hown
          clear hown
          cases gk with
          | succ g =>
            have hlt : k < l.length := by omega
            have e3 : decide ((k : Int) < (l.length : Int)) = true := decide_eq_true (by omega)
            obtain ⟨x, hx⟩ : ∃ x, l[k]? = some x := ⟨_, List.getElem?_eq_getElem hlt⟩
            obtain ⟨b, o, hA, hbB, kk, kv⟩ := PL.at_ (HS.out.step hb) hx
            subst hA
            have j1 : (0 : Int) ≤ (k : Int) := by omega
            have j2 : (k : Int) < (l.length : Int) := by omega
            have hl2 := H2l.out k
            cases hlx : ltS key x.1
            · have q3 : (Op.bytesLess x.1.toList key.toList || x.1.toList == key.toList) = true := by rw [le_data, hlx]; rfl
              have HN := Lib.hid (H2n.out k x hx hlx)
              clear hlx hx hkg hb
              go_wp2
              go_roundg g
              case measure => omega
              case rel => exact ⟨k + 1, by have := HG2.out; omega, by go_num, by rw [HN.out]; exact HO2.out, HB2'.out, hsz2⟩
            · have q3 : (Op.bytesLess x.1.toList key.toList || x.1.toList == key.toList) = false := by rw [le_data, hlx]; rfl
              have HN := Lib.hid (H2y.out k x hx hlx)
              clear hlx hx hkg hb
              have hlen : (F1 l.length ++ [(key, value)] ++ F2 k).length ≤ 100000 := by simp; omega
              have HLEN := Lib.hid hlen
              clear hlen
              go_wp2_with (at_builtin; (refine wpList_appP1 wr rfl _ _ rfl w.heap.size _ (F1 l.length ++ [(key, value)] ++ F2 k) x.1 x.2 HO2.out rfl rfl w HB2'.out hsz2 HLEN.out ?_); intro v2' w4 hown' hb' hsz4)
              have HO4 := Lib.hid hown'
              have HB4 := Lib.hid hb'
              clear hown' hb'
              go_wp2
              go_roundg g
              case measure => omega
              case rel => exact ⟨k + 1, by have := HG2.out; omega, by go_num, by rw [HN.out, ← List.append_assoc]; exact HO4.out, HB4.out, hsz4⟩
          | zero =>
            obtain rfl : k = l.length := by omega
            clear hkg hb
            go_wp2
            go_ret2
            exact ⟨_, rfl, HO2.out, HB2'.out⟩

end Go.Proofs.YtlkkdompcbdbeaaDoor
