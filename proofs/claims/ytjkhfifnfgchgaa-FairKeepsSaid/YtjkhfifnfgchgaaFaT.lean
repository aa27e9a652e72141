/-
  The law FairTurns: it answers true. Conditions: the list reads as data.
-/
import Derived.Test.YtjkhfifnfgchgaaFaE
import Derived.Test.YtjkhfifnfgchgaaIdB
namespace Go.Proofs.Ytjkhfifnfgchgaa
open Go.RowKit
open S2 (BK Put IL)

set_option maxHeartbeats 2000000 in
theorem indexI_not (A : Option Addr) (c : Nat) (X : List Int) (n : Int) (w : World) (h : IL w w.heap.size A X) (hn : n ∉ X) (hl : X.length ≤ 1000000) :
    Calls Try.prog 34 #[.slice A X.length c, .int .i64 n] w fun e w' => e = .returned (.int .i64 (-1)) ∧ w' = w := by
  have HS := Lib.hid h
  have HN := Lib.hid hn
  clear h hn
  go_enter Try.func34, Try.ntmps34
  go_wp2_with fail
  go_loopg [8] X.length (fun g v wr => ∃ k : Nat, k + g = X.length ∧ v = .int .i64 k ∧ wr = w)
  case atStart => exact ⟨0, by omega, rfl, rfl⟩
  case round =>
    obtain ⟨k, hkg, rfl, rfl⟩ := hrel
    have HG := Lib.hid hkg
    cases gk with
    | zero =>
      obtain rfl : k = X.length := by omega
      have e3 : decide ((X.length : Int) < (X.length : Int)) = false := decide_eq_false (by omega)
      clear hkg
      go_wp2_with fail
      go_ret
      exact ⟨rfl, rfl⟩
    | succ g =>
      have hlt : k < X.length := by omega
      have e3 : decide ((k : Int) < (X.length : Int)) = true := decide_eq_true (by omega)
      obtain ⟨x, hx⟩ : ∃ x, X[k]? = some x := ⟨_, List.getElem?_eq_getElem hlt⟩
      obtain ⟨b, o, hA, hbB, hc⟩ := S2.IL.at_ HS.out hx
      have q1 : (n == x) = false := beq_eq_false_iff_ne.2 (fun e => HN.out (by rw [e]; exact List.mem_of_getElem? hx))
      subst hA
      have j1 : (0 : Int) ≤ (k : Int) := by omega
      have j2 : (k : Int) < (X.length : Int) := by omega
      clear hx hbB hkg
      go_wp2_with fail
      go_roundg g
      case measure => omega
      case rel => exact ⟨k + 1, by have := HG.out; omega, by go_num, rfl⟩
theorem containsI_not (A : Option Addr) (c : Nat) (X : List Int) (n : Int) (w : World) (h : IL w w.heap.size A X) (hn : n ∉ X) (hl : X.length ≤ 1000000) :
    Calls Try.prog 22 #[.slice A X.length c, .int .i64 n] w fun e w' => e = .returned (.bool false) ∧ w' = w := by
  have HC := Lib.hid (indexI_not A c X n w h hn hl)
  clear h hn hl
  go_enter Try.func22, Try.ntmps22
  go_wp2_with fail
  refine HC.out.mono ?_
  rintro e w' ⟨rfl, rfl⟩
  go_wp2
  go_ret
  exact ⟨rfl, rfl⟩
def iN (i : Nat) : Int := (i : Int)
theorem cnt_next {xs : List Cs} {q : ByteArray} {k : Nat} {x : Cs} (hx : xs[k]? = some x) : ((xs.take (k + 1)).filter (hitC q)).length = ((xs.take k).filter (hitC q)).length + if hitC q x then 1 else 0 := by
  rw [List.take_add_one, hx, List.filter_append, List.length_append, Option.toList_some]
  cases h : hitC q x <;> simp [h]
theorem tags_next {xs : List Cs} {k : Nat} {x : Cs} (hx : xs[k]? = some x) (h : ((xs.take k).map Cs.tag).Nodup) (hn : ∀ i y, i < k → xs[i]? = some y → y.tag ≠ x.tag) : ((xs.take (k + 1)).map Cs.tag).Nodup := by
  rw [List.take_add_one, hx, List.map_append, List.nodup_append]
  refine ⟨h, by simp, fun a ha c hc => ?_⟩
  simp at hc
  subst hc
  obtain ⟨y, hy, rfl⟩ := List.mem_map.1 ha
  obtain ⟨i, hi⟩ := List.mem_iff_getElem?.1 hy
  have hil := (List.getElem?_eq_some_iff.1 hi).1
  rw [List.length_take] at hil
  rw [List.getElem?_take, if_pos (by omega)] at hi
  exact hn i y (by omega) hi
/-- one step through the turns -/
theorem turn_step {xs : List Cs} {q : ByteArray} {t : Int} (hn : (xs.map Cs.tag).Nodup) {R : List Nat} {k : Nat} (hk : k < R.length) (h : hits xs q (begC t xs 0) = R.drop k ++ R.take k) :
    ∃ p x, R[k]? = some p ∧ nxC xs q t = some p ∧ xs[p]? = some x ∧ hitC q x = true ∧ hits xs q (begC x.tag xs 0) = R.drop (k + 1) ++ R.take (k + 1) := by
  obtain ⟨p, hp⟩ : ∃ p, R[k]? = some p := ⟨_, List.getElem?_eq_getElem hk⟩
  have hd : R.drop k = p :: R.drop (k + 1) := dropC hp
  rw [hd, List.cons_append] at h
  obtain ⟨x, hx, h1, h2⟩ := nx_turn hn h
  refine ⟨p, x, hp, by rw [nx_hits, h]; rfl, hx, h1, ?_⟩
  rw [h2, List.append_assoc, takeC hp]
theorem iN_inj {a b : Nat} (h : iN a = iN b) : a = b := by unfold iN at h; omega
theorem not_in_take {R : List Nat} {k p : Nat} (hn : R.Nodup) (hp : R[k]? = some p) : iN p ∉ (R.take k).map iN := fun hm => by
  obtain ⟨a, ha, e⟩ := List.mem_map.1 hm
  rw [iN_inj e] at ha
  obtain ⟨i, hi⟩ := List.mem_iff_getElem?.1 ha
  have hil := (List.getElem?_eq_some_iff.1 hi).1
  rw [List.length_take] at hil
  rw [List.getElem?_take, if_pos (by omega)] at hi
  have := (List.getElem?_inj (by omega) hn).1 (hi.trans hp.symm)
  omega

set_option maxRecDepth 20000 in
set_option maxHeartbeats 16000000 in
theorem fairTurns_walk (A : Option Addr) (c : Nat) (xs : List Cs) (q : ByteArray) (last : Int) (w : World) (h : CsL w w.heap.size A xs) (hc : xs.length ≤ c) :
    Calls Try.prog 7 #[.slice A xs.length c, .string q, .int .i64 last] w fun e w' => e = .returned (.bool true) ∧ Below w.heap.size w w' := by
  have HX := Lib.hid (fun w1 => example_any w1)
  by_cases h32 : 32 < xs.length
  · have e1 : decide ((32 : Int) < (xs.length : Int)) = true := decide_eq_true (by omega)
    have e1' : decide (32 < xs.length) = true := decide_eq_true h32
    clear h hc h32
    go_enter Try.func7, Try.ntmps7
    go_wp2_with fail
    refine (HX.out w).mono ?_
    rintro e w2 ⟨rfl, hb⟩
    go_wp2
    go_ret
    exact ⟨rfl, hb⟩
  have e1 : decide ((32 : Int) < (xs.length : Int)) = false := decide_eq_false (by omega)
  have e1' : decide (32 < xs.length) = false := decide_eq_false h32
  have hn : xs.length ≤ 32 := by omega
  have HS := Lib.hid h
  have HRD := Lib.hid (fun x w1 => rReady_any x w1)
  have HNX := Lib.hid (fun A lst w1 hs => fNext_any A c xs q lst w1 hs (by omega))
  unfold RetNx at HNX
  clear h h32
  go_enter Try.func7, Try.ntmps7
  go_wp2_with fail
  go_loopg [7, 25] xs.length (fun g u v wr => ∃ k : Nat, k + g = xs.length ∧ v = .int .i64 k ∧ u = .int .i64 (iN ((xs.take k).filter (hitC q)).length) ∧ ((xs.take k).map Cs.tag).Nodup ∧ Below w.heap.size w wr)
  case atStart => exact ⟨0, by omega, rfl, rfl, by simp, Below.refl _ _⟩
  case round =>
    obtain ⟨k, hkg, rfl, rfl, hnd, hb0⟩ := hrel
    have HG := Lib.hid hkg
    have HND := Lib.hid hnd
    have B_wr := Lib.hid hb0
    have S_wr := Lib.hid (GL.step HS.out hb0)
    clear hnd hb0
    cases gk with
    | zero =>
      obtain rfl : k = xs.length := by omega
      have e3 : decide ((xs.length : Int) < (xs.length : Int)) = false := decide_eq_false (by omega)
      have HND2 : Hid ((xs.map Cs.tag).Nodup) := Lib.hid (by have := HND.out; rwa [List.take_length] at this)
      obtain ⟨R, hR⟩ : ∃ R, hits xs q (begC last xs 0) = R := ⟨_, rfl⟩
      have hlen : R.length = ((xs.take xs.length).filter (hitC q)).length := by
        rw [List.take_length, ← hR, hits_len xs q (by have := beg_le (t := last) (l := xs) (k := 0); omega)]
      have HRN : Hid R.Nodup := Lib.hid (by rw [← hR]; exact hits_nodup _ _ _)
      have hRl : R.length ≤ 32 := by
        rw [hlen, List.take_length]
        exact Nat.le_trans (List.length_filter_le _ _) hn
      rw [← hlen]
      have HR := Lib.hid hR
      clear hkg HND hlen hR
      go_wp2_with fail
      go_loopg [2, 12, 56] 2 (fun g u2 u12 v wr2 => ∃ (r : Nat) (lst : Int), r + g = 2 ∧ v = .int .i64 r ∧ u2 = .int .i64 lst ∧ hits xs q (begC lst xs 0) = R ∧ _root_.Go.Proofs.Ytjkhfifnfgchgaa.Own 3 S2.iv wr2 w.heap.size u12 (if r = 0 then [] else R.map iN) ∧ Below w.heap.size w wr2)
      case atStart => exact ⟨0, last, by omega, rfl, rfl, HR.out, by rw [if_pos rfl]; exact _root_.Go.Proofs.Ytjkhfifnfgchgaa.Own.nil _ _, B_wr.out⟩
      case round =>
        rename World => wr2
        obtain ⟨r, lst, hrg, rfl, rfl, hh, how, hb0⟩ := hrel
        have HH := Lib.hid hh
        have HG2 := Lib.hid hrg
        have B_wr2 := Lib.hid hb0
        have OW := Lib.hid how
        clear hh hb0 how B_wr S_wr
        cases gk with
        | zero =>
          obtain rfl : r = 2 := by omega
          have HNB := Lib.hid (HNX.out A lst wr2 (GL.step HS.out B_wr2.out))
          have hsome : (nxC xs q lst).isSome = decide (0 < R.length) := by
            rw [nx_hits, HH.out]
            cases R <;> rfl
          rw [hsome] at HNB
          generalize nxI (nxC xs q lst) = z at *
          have hcmp : decide ((0 : Int) < (iN R.length)) = decide (0 < R.length) := by
            by_cases h0 : 0 < R.length
            · rw [decide_eq_true h0]; exact decide_eq_true (by unfold iN; omega)
            · rw [decide_eq_false h0]; exact decide_eq_false (by unfold iN; omega)
          generalize decide (0 < R.length) = bz at *
          have hne : (bz != bz) = false := by simp
          clear hrg hsome OW
          go_wp2_with fail
          refine HNB.out.mono ?_
          rintro e w4 ⟨rfl, hb⟩
          have B_w4 := Lib.hid (stepB B_wr2.out hb)
          clear hb
          go_wp2_with fail
          refine (HX.out w4).mono ?_
          rintro e w5 ⟨rfl, hb⟩
          have B_w5 := Lib.hid (stepB B_w4.out hb)
          clear hb
          go_wp2
          go_ret
          exact ⟨rfl, B_w5.out⟩
        | succ g3 =>
          obtain rfl | rfl : r = 0 ∨ r = 1 := by omega
          · rw [if_pos rfl] at OW
            clear hrg
            go_wp2_with fail
            go_loopg [2, 12, 60] R.length (fun g u2 u12 v wr3 => ∃ (k : Nat) (lst : Int), k + g = R.length ∧ v = .int .i64 k ∧ u2 = .int .i64 lst ∧ hits xs q (begC lst xs 0) = R.drop k ++ R.take k ∧ _root_.Go.Proofs.Ytjkhfifnfgchgaa.Own 3 S2.iv wr3 w.heap.size u12 ((R.take k).map iN) ∧ Below w.heap.size w wr3)
            case atStart => exact ⟨0, lst, by omega, rfl, rfl, by rw [HH.out]; simp, by simpa using OW.out, B_wr2.out⟩
            case round =>
              rename World => wr3
              obtain ⟨k, lst, hkg, rfl, rfl, hh, how, hb0⟩ := hrel
              have HH3 := Lib.hid hh
              have OW3 := Lib.hid how
              have B_wr3 := Lib.hid hb0
              have HG3 := Lib.hid hkg
              clear hh how hb0 HH OW B_wr2
              cases gk with
              | zero =>
                obtain rfl : k = R.length := by omega
                have e6 : decide ((R.length : Int) < iN R.length) = false := decide_eq_false (by unfold iN; omega)
                have HE : Hid (hits xs q (begC lst xs 0) = R) := Lib.hid (by rw [HH3.out]; simp)
                have OW4 : Hid (_root_.Go.Proofs.Ytjkhfifnfgchgaa.Own 3 S2.iv wr3 w.heap.size u12 (R.map iN)) := Lib.hid (by have := OW3.out; rwa [List.take_length] at this)
                clear hkg OW3 HH3
                go_wp2_with fail
                go_roundg g3
                case measure => omega
                case rel => exact ⟨1, lst, by have := HG2.out; omega, by go_num, rfl, HE.out, by rw [if_neg (by decide)]; exact OW4.out, B_wr3.out⟩
              | succ g4 =>
                have hlt : k < R.length := by omega
                have e6 : decide ((k : Int) < iN R.length) = true := decide_eq_true (by unfold iN; omega)
                obtain ⟨p, x, hp, hnx, hx, hhit, hh2⟩ := turn_step HND2.out hlt HH3.out
                have hpl : p < xs.length := (List.getElem?_eq_some_iff.1 hx).1
                obtain ⟨b, o, hA, hbB, hcl⟩ := CsL.at_ HS.out hx
                have HCL := Lib.hid (And.intro hbB hcl)
                have HNB := Lib.hid (HNX.out A lst wr3 (GL.step HS.out B_wr3.out))
                rw [hnx] at HNB
                subst hA
                have HH2 := Lib.hid hh2
                have hqr : decide (x.qu = q) = true ∧ rdyC x = true := by unfold hitC at hhit; simpa using hhit
                have q1 : (x.qu.toList == q.toList) = true := by rw [str_dec, hqr.1]
                have HRx := Lib.hid (HRD.out x)
                rw [hqr.2] at HRx
                have j1 : (0 : Int) ≤ (p : Int) := by omega
                have j2 : (p : Int) < (xs.length : Int) := by omega
                have j3 : decide ((p : Int) < 0) = false := decide_eq_false (by omega)
                have j4 : decide ((xs.length : Int) ≤ (p : Int)) = false := decide_eq_false (by omega)
                have j4' : decide (xs.length ≤ p) = false := decide_eq_false (by omega)
                have HNI := Lib.hid (not_in_take HRN.out hp)
                have HTK : Hid ((R.take k).map iN ++ [(p : Int)] = (R.take (k + 1)).map iN) := Lib.hid (by rw [← takeC hp, List.map_append]; rfl)
                unfold nxI at HNB
                dsimp only [Option.isSome] at HNB
                have hfl : ((R.take k).map iN).length ≤ 32 := (by rw [List.length_map, List.length_take]; omega)
                generalize (R.take k).map iN = F at *
                obtain ⟨Af, cf, hu, hcf, hil⟩ := OW3.out.ret
                subst hu
                have HIL := Lib.hid hil
                clear hp hnx hx hhit hh2 hbB hcl hqr hcf hil hkg HH3
                go_wp2_with fail
                refine HNB.out.mono ?_
                rintro e w4 ⟨rfl, hb⟩
                have hcl := fun i v hv => ((stepB B_wr3.out hb).cell (p := ⟨b, o + p * 5 + i, none⟩) HCL.out.1).trans (HCL.out.2 i v hv)
                have HLD := Lib.hid (load_cs hcl)
                have c2 := hcl 2 _ rfl
                have OW4 := Lib.hid (_root_.Go.Proofs.Ytjkhfifnfgchgaa.Own.step OW3.out hb)
                have HIL4 := Lib.hid (CL.step HIL.out hb)
                have B_w4 := Lib.hid (stepB B_wr3.out hb)
                clear hcl hb OW3 HIL B_wr3
                go_wp2_with first
                  | (refine wpList_load_v (by rfl) 25 _ rfl ⟨b, o + p * 5, none⟩ (by go_simp) _ HLD.out ?_)
                refine (HRx.out _).mono ?_
                rintro e w5 ⟨rfl, hb⟩
                have OW5 := Lib.hid (_root_.Go.Proofs.Ytjkhfifnfgchgaa.Own.step OW4.out hb)
                have HIL5 := Lib.hid (CL.step HIL4.out hb)
                have B_w5 := Lib.hid (stepB B_w4.out hb)
                clear hb OW4 HIL4 B_w4 c2 HLD
                have HCT := Lib.hid (containsI_not Af cf _ (p : Int) w5 HIL5.out HNI.out (by omega))
                have HFL : Hid (F.length ≤ 1099511627776) := Lib.hid (by omega)
                clear hfl
                go_wp2_with fail
                refine HCT.out.mono ?_
                rintro e w6 ⟨rfl, rfl⟩
                go_wp2_with first
                  | (at_builtin; refine S2.wpList_appI1 w6 rfl _ _ rfl w.heap.size (.slice Af F.length cf) F (p : Int) rfl OW5.out rfl w B_w5.out B_w5.out.size HFL.out ?_; intro v1 w7 hown1 hb1 hB1; have c07 : w7.cell? ⟨b, o + p * 5, none⟩ = some (.int .i64 x.tag) := (hb1.cell (p := ⟨b, o + p * 5, none⟩) HCL.out.1).trans (HCL.out.2 0 _ rfl))
                go_roundg g4
                case measure => omega
                case rel => exact ⟨k + 1, x.tag, by have := HG3.out; omega, by go_num, rfl, HH2.out, by rw [← HTK.out]; exact hown1, hb1⟩
          · rw [if_neg (by decide)] at OW
            clear hrg
            go_wp2_with fail
            go_loopg [2, 12, 60] R.length (fun g u2 u12 v wr3 => ∃ (k : Nat) (lst : Int), k + g = R.length ∧ v = .int .i64 k ∧ u2 = .int .i64 lst ∧ hits xs q (begC lst xs 0) = R.drop k ++ R.take k ∧ _root_.Go.Proofs.Ytjkhfifnfgchgaa.Own 3 S2.iv wr3 w.heap.size u12 (R.map iN) ∧ Below w.heap.size w wr3)
            case atStart => exact ⟨0, lst, by omega, rfl, rfl, by rw [HH.out]; simp, OW.out, B_wr2.out⟩
            case round =>
              rename World => wr3
              obtain ⟨k, lst, hkg, rfl, rfl, hh, how, hb0⟩ := hrel
              have HH3 := Lib.hid hh
              have OW3 := Lib.hid how
              have B_wr3 := Lib.hid hb0
              have HG3 := Lib.hid hkg
              clear hh how hb0 HH OW B_wr2
              cases gk with
              | zero =>
                obtain rfl : k = R.length := by omega
                have e6 : decide ((R.length : Int) < iN R.length) = false := decide_eq_false (by unfold iN; omega)
                have HE : Hid (hits xs q (begC lst xs 0) = R) := Lib.hid (by rw [HH3.out]; simp)
                have OW4 := OW3
                clear hkg OW3 HH3
                go_wp2_with fail
                go_roundg g3
                case measure => omega
                case rel => exact ⟨2, lst, by have := HG2.out; omega, by go_num, rfl, HE.out, by rw [if_neg (by decide)]; exact OW4.out, B_wr3.out⟩
              | succ g4 =>
                have hlt : k < R.length := by omega
                have e6 : decide ((k : Int) < iN R.length) = true := decide_eq_true (by unfold iN; omega)
                obtain ⟨p, x, hp, hnx, hx, hhit, hh2⟩ := turn_step HND2.out hlt HH3.out
                have hpl : p < xs.length := (List.getElem?_eq_some_iff.1 hx).1
                obtain ⟨b, o, hA, hbB, hcl⟩ := CsL.at_ HS.out hx
                have HCL := Lib.hid (And.intro hbB hcl)
                have HNB := Lib.hid (HNX.out A lst wr3 (GL.step HS.out B_wr3.out))
                rw [hnx] at HNB
                subst hA
                have HH2 := Lib.hid hh2
                have hqr : decide (x.qu = q) = true ∧ rdyC x = true := by unfold hitC at hhit; simpa using hhit
                have q1 : (x.qu.toList == q.toList) = true := by rw [str_dec, hqr.1]
                have HRx := Lib.hid (HRD.out x)
                rw [hqr.2] at HRx
                have j1 : (0 : Int) ≤ (p : Int) := by omega
                have j2 : (p : Int) < (xs.length : Int) := by omega
                have j3 : decide ((p : Int) < 0) = false := decide_eq_false (by omega)
                have j4 : decide ((xs.length : Int) ≤ (p : Int)) = false := decide_eq_false (by omega)
                have j4' : decide (xs.length ≤ p) = false := decide_eq_false (by omega)
                have HPK : Hid ((R.map iN)[k]? = some (p : Int)) := Lib.hid (by rw [List.getElem?_map, hp]; rfl)
                skip
                unfold nxI at HNB
                dsimp only [Option.isSome] at HNB
                have hkl : k < (R.map iN).length := (by rw [List.length_map]; exact hlt)
                generalize R.map iN = F at *
                obtain ⟨Af, cf, hu, hcf, hil⟩ := OW3.out.ret
                subst hu
                have HIL := Lib.hid hil
                clear hp hnx hx hhit hh2 hbB hcl hqr hcf hil hkg HH3
                go_wp2_with fail
                refine HNB.out.mono ?_
                rintro e w4 ⟨rfl, hb⟩
                have hcl := fun i v hv => ((stepB B_wr3.out hb).cell (p := ⟨b, o + p * 5 + i, none⟩) HCL.out.1).trans (HCL.out.2 i v hv)
                have HLD := Lib.hid (load_cs hcl)
                have c2 := hcl 2 _ rfl
                have OW4 := Lib.hid (_root_.Go.Proofs.Ytjkhfifnfgchgaa.Own.step OW3.out hb)
                have HIL4 := Lib.hid (CL.step HIL.out hb)
                have B_w4 := Lib.hid (stepB B_wr3.out hb)
                clear hcl hb OW3 HIL B_wr3
                go_wp2_with first
                  | (refine wpList_load_v (by rfl) 25 _ rfl ⟨b, o + p * 5, none⟩ (by go_simp) _ HLD.out ?_)
                refine (HRx.out _).mono ?_
                rintro e w5 ⟨rfl, hb⟩
                have OW5 := Lib.hid (_root_.Go.Proofs.Ytjkhfifnfgchgaa.Own.step OW4.out hb)
                have HIL5 := Lib.hid (CL.step HIL4.out hb)
                have B_w5 := Lib.hid (stepB B_w4.out hb)
                clear hb OW4 HIL4 B_w4 c2 HLD
                have c0 : w5.cell? ⟨b, o + p * 5, none⟩ = some (.int .i64 x.tag) := (B_w5.out.cell (p := ⟨b, o + p * 5, none⟩) HCL.out.1).trans (HCL.out.2 0 _ rfl)
                have k2 : (k : Int) < (F.length : Int) := by omega
                have k1 : (0 : Int) ≤ (k : Int) := by omega
                obtain ⟨bf, of, hAf, _, hcf⟩ := S2.IL.at_ HIL5.out HPK.out
                subst hAf
                have q5 : ((p : Int) != (p : Int)) = false := by simp
                go_wp2_with fail
                go_roundg g4
                case measure => omega
                case rel => exact ⟨k + 1, x.tag, by have := HG3.out; omega, by go_num, rfl, HH2.out, OW5.out, B_w5.out⟩
    | succ gk =>
      have hlt : k < xs.length := by omega
      have e3 : decide ((k : Int) < (xs.length : Int)) = true := decide_eq_true (by omega)
      obtain ⟨x, hx⟩ : ∃ x, xs[k]? = some x := ⟨_, List.getElem?_eq_getElem hlt⟩
      obtain ⟨b, o, hA, hbB, hcl⟩ := CsL.at_ S_wr.out hx
      have HLD := Lib.hid (load_cs hcl)
      have HXK := Lib.hid hx
      have HTN := Lib.hid (tags_next hx HND.out)
      have hcn := cnt_next (q := q) hx
      subst hA
      have j1 : (0 : Int) ≤ (k : Int) := by omega
      have j2 : (k : Int) < (xs.length : Int) := by omega
      have j3 : (k : Int) ≤ (xs.length : Int) := by omega
      have j4 : (k : Int) ≤ (c : Int) := by omega
      have j5 : decide ((k : Int) ≤ (c : Int)) = true := decide_eq_true j4
      have hcl32 : ((xs.take k).filter (hitC q)).length ≤ 32 := Nat.le_trans (List.length_filter_le _ _) (by rw [List.length_take]; omega)
      generalize ((xs.take k).filter (hitC q)).length = N0 at *
      have HCN := Lib.hid hcn
      clear hx hcl hbB hkg hcn
      go_wp2_with first
        | (refine wpList_load_v (by rfl) 25 _ rfl ⟨b, o + k * 5, none⟩ (by go_simp) _ HLD.out ?_)
        | (refine S2.wpList_store_all (by rfl) 25 (.tmp 9) (.tmp 29) rfl rfl wr.heap.size rfl (gC x) rfl 25 _ (BK.new wr _ _) conSize rfl (gC_one _) ?_; intro w2 hM hP; have hb := hP.below (S2.below_new wr _) (Nat.le_refl _); have V_w2 := Lib.hid hM; have B_w2 := Lib.hid (stepB B_wr.out hb); have S_w2 := Lib.hid (GL.step S_wr.out hb); clear hM hP hb B_wr S_wr HLD)
      obtain ⟨vg, hvg⟩ : ∃ n, n = wr.heap.size := ⟨_, rfl⟩
      rw [← hvg] at V_w2 ⊢
      clear hvg
      go_loopg [34] k (fun g v wr2 => ∃ j : Nat, j + g = k ∧ v = .int .i64 j ∧ (∀ i y, i < j → xs[i]? = some y → y.tag ≠ x.tag) ∧ Below w2.heap.size w2 wr2)
      case atStart => exact ⟨0, by omega, rfl, fun i y hi => by omega, Below.refl _ _⟩
      case round =>
        rename World => wr2
        obtain ⟨j, hjg, rfl, hto, hb⟩ := hrel
        have HJ := Lib.hid hjg
        have HTO := Lib.hid hto
        have hV2 := V_w2.out.step hb
        have V_wr2 := Lib.hid hV2
        have B_wr2 := Lib.hid (stepB B_w2.out hb)
        have S_wr2 := Lib.hid (GL.step S_w2.out hb)
        have BB := Lib.hid hb
        clear hto hb
        cases gk with
        | zero =>
          obtain rfl : j = k := by omega
          have e5 : decide ((j : Int) < (j : Int)) = false := decide_eq_false (by omega)
          obtain ⟨z0, z1, z2, z3, z4⟩ := cells5 hV2
          have HTG := Lib.hid (HTN.out HTO.out)
          have q1 : (x.qu.toList == q.toList) = decide (x.qu = q) := str_dec _ _
          have HH : Hid (hitC q x = (decide (x.qu = q) && rdyC x)) := Lib.hid rfl
          have HRx := Lib.hid (HRD.out x)
          generalize decide (x.qu = q) = b1 at *
          generalize rdyC x = rd at *
          have hw0 : wrap64 (iN N0 + 1) = iN (N0 + 1) := by unfold iN; rw [S2.wrap64_id _ (by omega) (by omega)]; rfl
          have HW0 := Lib.hid hw0
          clear hjg hV2 V_w2 B_w2 S_w2 BB z0 z1 z3 z4
          cases b1 with
          | false =>
            have HC0 : Hid (((xs.take (j + 1)).filter (hitC q)).length = N0) := Lib.hid (by rw [HCN.out, HH.out]; simp)
            go_wp2_with fail
            go_roundg gk
            case measure => omega
            case rel => exact ⟨j + 1, by have := HG.out; omega, by go_num, by rw [HC0.out], HTG.out, B_wr2.out⟩
          | true =>
            go_wp2_with first
              | (refine wpList_load_v (by rfl) 25 _ rfl ⟨vg, 0, none⟩ (by go_simp) _ (load_cs0 V_wr2.out) ?_)
            refine (HRx.out _).mono ?_
            rintro e w3 ⟨rfl, hb⟩
            have B_w3 := Lib.hid (stepB B_wr2.out hb)
            clear hb z2
            cases rd with
            | false =>
              have HC0 : Hid (((xs.take (j + 1)).filter (hitC q)).length = N0) := Lib.hid (by rw [HCN.out, HH.out]; simp)
              go_wp2_with fail
              go_roundg gk
              case measure => omega
              case rel => exact ⟨j + 1, by have := HG.out; omega, by go_num, by rw [HC0.out], HTG.out, B_w3.out⟩
            | true =>
              have HC0 : Hid (((xs.take (j + 1)).filter (hitC q)).length = N0 + 1) := Lib.hid (by rw [HCN.out, HH.out]; simp)
              go_wp2_with fail
              go_roundg gk
              case measure => omega
              case rel => exact ⟨j + 1, by have := HG.out; omega, by go_num, by rw [HC0.out]; first | rfl | rw [HW0.out], HTG.out, B_w3.out⟩
        | succ g2 =>
          have hjk : j < k := by omega
          have e5 : decide ((j : Int) < (k : Int)) = true := decide_eq_true (by omega)
          have e5' : decide (j < k) = true := decide_eq_true hjk
          obtain ⟨y, hy⟩ : ∃ y, xs[j]? = some y := ⟨_, List.getElem?_eq_getElem (by omega)⟩
          obtain ⟨b2, o2, hA2, hbB2, hcl2⟩ := CsL.at_ S_wr2.out hy
          simp only [Option.some.injEq, Addr.mk.injEq, and_true] at hA2
          obtain ⟨rfl, rfl⟩ := hA2
          have HLD := Lib.hid (load_cs hcl2)
          have HYK := Lib.hid hy
          have i1 : (0 : Int) ≤ (j : Int) := by omega
          have i2 : (j : Int) < (k : Int) := by omega
          have q1 : (y.tag == x.tag) = decide (y.tag = x.tag) := eqI _ _
          have hvl : vg < wr2.heap.size := hV2.lt
          clear hy hcl2 hbB2 hjg hV2 V_w2 B_w2 S_w2
          by_cases ht : y.tag = x.tag
          · rw [decide_eq_true ht] at q1
            clear ht
            go_wp2_with first
              | (refine wpList_load_v (by rfl) 25 _ rfl ⟨b, o + j * 5, none⟩ (by go_simp) _ HLD.out ?_)
              | (refine S2.wpList_store_all (by rfl) 25 (.tmp 11) (.tmp 37) rfl rfl wr2.heap.size rfl (gC y) rfl 25 _ (BK.new wr2 _ _) conSize rfl (gC_one _) ?_; intro w3 hM hP; have hb := hP.below (S2.below_new wr2 _) (Nat.le_refl _); have B_w3 := Lib.hid (stepB B_wr2.out hb); obtain ⟨z0, z1, z2, z3, z4⟩ := cells5 hM; obtain ⟨y0, y1, y2, y3, y4⟩ := cells5 (V_wr2.out.step hb); clear hM hP hb z1 z2 z3 z4 y1 y2 y3 y4)
            refine (HX.out w3).mono ?_
            rintro e w4 ⟨rfl, hb⟩
            have B_w4 := Lib.hid (stepB B_w3.out hb)
            clear hb z0 y0
            go_wp2
            go_ret
            exact ⟨rfl, B_w4.out⟩
          · rw [decide_eq_false ht] at q1
            have HT := Lib.hid ht
            clear ht
            go_wp2_with first
              | (refine wpList_load_v (by rfl) 25 _ rfl ⟨b, o + j * 5, none⟩ (by go_simp) _ HLD.out ?_)
              | (refine S2.wpList_store_all (by rfl) 25 (.tmp 11) (.tmp 37) rfl rfl wr2.heap.size rfl (gC y) rfl 25 _ (BK.new wr2 _ _) conSize rfl (gC_one _) ?_; intro w3 hM hP; have hb := hP.below (S2.below_new wr2 _) (Nat.le_refl _); have BB_w3 := Lib.hid (stepB BB.out hb); obtain ⟨z0, z1, z2, z3, z4⟩ := cells5 hM; obtain ⟨y0, y1, y2, y3, y4⟩ := cells5 (V_wr2.out.step hb); clear hM hP hb z1 z2 z3 z4 y1 y2 y3 y4)
            go_roundg g2
            case measure => omega
            case rel => exact ⟨j + 1, by have := HJ.out; omega, by go_num, fun i z hi hz => by
              rcases Nat.lt_or_ge i j with h1 | h1
              · exact HTO.out i z h1 hz
              · obtain rfl : i = j := by omega
                rw [HYK.out] at hz
                rw [← Option.some.inj hz]; exact HT.out, BB_w3.out⟩
end Go.Proofs.Ytjkhfifnfgchgaa
