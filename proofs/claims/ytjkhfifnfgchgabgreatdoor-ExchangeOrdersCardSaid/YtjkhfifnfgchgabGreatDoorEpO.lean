/-
  What words, matchWords and Matches of exchange answer: whether a pattern matches a key. Conditions: the texts have fewer than 2^32 - 15 bytes; the library's bound on short texts holds a number.
-/
import Derived.Test.YtjkhfifnfgchgabGreatDoorEpN
namespace Go.Proofs.YtjkhfifnfgchgabGreatDoor
open Go.RowKit
open S2 (BK Put)

theorem eqL (x : ByteArray) (l : List UInt8) : (x.toList == l) = decide (x = ⟨l.toArray⟩) := by
  have h := str_dec x ⟨l.toArray⟩
  have e : (⟨l.toArray⟩ : ByteArray).toList = l := by rw [Lib.toList_data]
  rw [e] at h
  exact h
/-- the words of a text -/
def wdB (s : ByteArray) : List ByteArray := Lib.splitB ⟨#[46]⟩ 0 (Lib.countB s ⟨#[46]⟩) s
theorem wdB_len (s : ByteArray) : (wdB s).length = Lib.countB s ⟨#[46]⟩ + 1 := Lib.splitB_all ⟨#[46]⟩ (by decide) 0 _ s rfl
theorem wdB_le (s : ByteArray) : (wdB s).length ≤ s.size + 1 := by
  rw [wdB_len]
  have := Lib.countB_le ⟨#[46]⟩ (by decide) s.size s (Nat.le_refl _)
  omega
def mtR (p k : ByteArray) : Bool := decide (txR p = 0) && decide (txR k = 0) && mtW (wdB p) (wdB k)
theorem txR_size {s : ByteArray} (h : txR s = 0) : s.size ≤ 64 := by
  unfold txR at h
  by_cases h2 : 64 < s.size
  · rw [if_pos h2] at h; cases h
  · omega
theorem split_any (s : ByteArray) (w : World) (hw : S1.Okw w) (hs : s.size < 4294967281) :
    Calls Tryz.prog 84 #[.string s, .string ⟨#[46]⟩] w fun e w' => ∃ A, e = .returned (.slice A (wdB s).length (wdB s).length) ∧ S1.SL w' w'.heap.size A (wdB s) ∧ Below w.heap.size w w' := by
  obtain ⟨m, hm⟩ := hw
  refine (Tryz.strings_Split s ⟨#[46]⟩ m w hs hm (by decide)).mono ?_
  rintro e w' ⟨rfl, rfl⟩
  refine ⟨_, by rw [wdB_len], S1.SL.new, S2.below_new _ _⟩
theorem words_any (s : ByteArray) (w : World) (hw : S1.Okw w) (hs : s.size < 4294967281) :
    Calls Tryz.prog 61 #[.string s] w fun e w' => ∃ A, e = .returned (.slice A (wdB s).length (wdB s).length) ∧ S1.SL w' w'.heap.size A (wdB s) ∧ Below w.heap.size w w' := by
  have HC := Lib.hid (split_any s w hw hs)
  generalize wdB s = ws at *
  obtain ⟨n, hn⟩ : ∃ n, ws.length = n := ⟨_, rfl⟩
  rw [hn] at HC ⊢
  clear hw hs hn
  go_enter Tryz.func61, Tryz.ntmps61
  go_wp2_with fail
  refine HC.out.mono ?_
  rintro e w' ⟨A, rfl, hsl, hb⟩
  have HS := Lib.hid hsl
  have HB := Lib.hid hb
  clear hsl hb HC
  go_wp2_with fail
  go_ret
  exact ⟨_, rfl, HS.out, HB.out⟩

/-! ### Is there a word that is no #? -/
def nhB (x : ByteArray) : Bool := !decide (x = hashB)
theorem mw1_any (x : ByteArray) (w : World) : Calls Tryz.prog 83 #[.string x] w fun e w' => e = .returned (.bool (nhB x)) ∧ w' = w := by
  have q1 : (x.toList == [35]) = decide (x = hashB) := eqL x [35]
  unfold nhB
  generalize decide (x = hashB) = b1 at *
  cases b1
  all_goals
    go_enter Tryz.func83, Tryz.ntmps83
    go_wp2
    go_ret
    exact ⟨rfl, rfl⟩
def RetIx (b : Bool) (w : World) (e : Ending) (w' : World) : Prop := ∃ k : Int, e = .returned (.int .i64 k) ∧ decide (0 ≤ k) = b ∧ w' = w
set_option maxHeartbeats 1000000 in
theorem idxS_any (A : Option Addr) (c : Nat) (xs : List ByteArray) (w : World) (h : S1.SL w w.heap.size A xs) (hn : xs.length ≤ 4294967296) :
    Calls Tryz.prog 102 #[.slice A xs.length c, .func (.func 83) #[] #[]] w (RetIx (xs.any nhB) w) := by
  have HS := Lib.hid h
  have HC := Lib.hid mw1_any
  obtain ⟨R, hR⟩ : ∃ R, xs.any nhB = R := ⟨_, rfl⟩
  rw [hR]
  have HR : Hid (R = (xs.drop 0).any nhB) := Lib.hid (by rw [List.drop_zero]; exact hR.symm)
  clear h hR
  go_enter Tryz.func102, Tryz.ntmps102
  go_wp2
  go_loopg [8] xs.length (fun g v wr => ∃ k : Nat, k + g = xs.length ∧ v = .int .i64 k ∧ R = (xs.drop k).any nhB ∧ wr = w)
  case atStart => exact ⟨0, by omega, rfl, HR.out, rfl⟩
  case round =>
    obtain ⟨k, hkg, rfl, hrel, rfl⟩ := hrel
    have HREL := Lib.hid hrel
    have HG := Lib.hid hkg
    clear hrel HR
    cases gk with
    | zero =>
      obtain rfl : k = xs.length := by omega
      have HF : Hid (R = false) := Lib.hid (by rw [HREL.out, List.drop_length]; rfl)
      clear hkg
      go_wp2
      go_ret
      exact ⟨-1, rfl, by rw [HF.out]; decide, rfl⟩
    | succ g =>
      have hlt : k < xs.length := by omega
      have e3 : decide ((k : Int) < (xs.length : Int)) = true := decide_eq_true (by omega)
      obtain ⟨x, hx⟩ : ∃ x, xs[k]? = some x := ⟨_, List.getElem?_eq_getElem hlt⟩
      obtain ⟨b, o, hA, hbB, hcl⟩ := HS.out (by omega)
      have kv := hcl k x hx
      subst hA
      have j1 : (0 : Int) ≤ (k : Int) := by omega
      have j2 : (k : Int) < (xs.length : Int) := by omega
      have HD := Lib.hid (dropC hx)
      clear hx hkg hlt hbB hcl
      go_wp2_with fail
      refine (HC.out x _).mono ?_
      rintro e w1 ⟨rfl, rfl⟩
      cases hb : nhB x with
      | true =>
        have HF : Hid (R = true) := Lib.hid (by rw [HREL.out, HD.out, List.any_cons, hb]; rfl)
        clear hb
        go_wp2
        go_ret
        exact ⟨k, rfl, by rw [HF.out]; exact decide_eq_true (by omega), rfl⟩
      | false =>
        have HF : Hid (R = (xs.drop (k + 1)).any nhB) := Lib.hid (by rw [HREL.out, HD.out, List.any_cons, hb, Bool.false_or])
        clear hb
        go_wp2
        go_roundg g
        case measure => omega
        case rel => exact ⟨k + 1, by have := HG.out; omega, by go_num, HF.out, rfl⟩
theorem conS_any (A : Option Addr) (c : Nat) (xs : List ByteArray) (w : World) (h : S1.SL w w.heap.size A xs) (hn : xs.length ≤ 4294967296) :
    Calls Tryz.prog 82 #[.slice A xs.length c, .func (.func 83) #[] #[]] w fun e w' => e = .returned (.bool (xs.any nhB)) ∧ w' = w := by
  have HC := Lib.hid (idxS_any A c xs w h hn)
  obtain ⟨R, hR⟩ : ∃ R, xs.any nhB = R := ⟨_, rfl⟩
  rw [hR] at HC ⊢
  clear h hR
  go_enter Tryz.func82, Tryz.ntmps82
  go_wp2_with fail
  refine HC.out.mono ?_
  rintro e w1 ⟨k, rfl, hk, rfl⟩
  subst hk
  go_wp2
  go_ret
  exact ⟨by simp, rfl⟩
def mI (m : Option Nat) : Int := match m with
  | some n => (n : Int)
  | none => -1
theorem not_any (xs : List ByteArray) : (!xs.any nhB) = xs.all (fun x => decide (x = hashB)) := by
  unfold nhB
  rw [List.not_any_eq_all_not]
  congr 1
  funext x
  exact Bool.not_not _
theorem gle {p k : List ByteArray} {at_ rd tk : Nat} {m : Option Nat} (h : Gl p k at_ rd m tk) : tk ≤ k.length := Nat.le_trans h.htk h.hrd

set_option maxRecDepth 20000 in
set_option maxHeartbeats 8000000 in
theorem matchWords_any (A1 A2 : Option Addr) (p k : List ByteArray) (w : World) (h1 : S1.SL w w.heap.size A1 p) (h2 : S1.SL w w.heap.size A2 k) (hn1 : p.length ≤ 4294967296) (hn2 : k.length ≤ 4294967296) :
    Calls Tryz.prog 60 #[.slice A1 p.length p.length, .slice A2 k.length k.length] w fun e w' => e = .returned (.bool (mtW p k)) ∧ Below w.heap.size w w' := by
  have HP := Lib.hid h1
  have HK := Lib.hid h2
  have HN1 := Lib.hid hn1
  have HN2 := Lib.hid hn2
  have H0 := Lib.hid (Gl.start p k)
  obtain ⟨R, hR⟩ : ∃ R, mtW p k = R := ⟨_, rfl⟩
  have HR := Lib.hid hR
  rw [hR]
  clear h1 h2 hn1 hn2 hR
  go_enter Tryz.func60, Tryz.ntmps60
  go_wp2_with fail
  go_loopg [5, 6, 7, 8] (gleft p k 0 0) (fun g s5 s6 s7 s8 wr => ∃ (at_ rd tk : Nat) (m : Option Nat), s5 = .int .i64 at_ ∧ s6 = .int .i64 rd ∧ s7 = .int .i64 (mI m) ∧ s8 = .int .i64 tk ∧ Gl p k at_ rd m tk ∧ gleft p k at_ tk ≤ g ∧ Below w.heap.size w wr)
  case atStart => exact ⟨0, 0, 0, none, rfl, rfl, rfl, rfl, H0.out, Nat.le_refl _, Below.refl _ _⟩
  case round =>
    obtain ⟨at_, rd, tk, m, rfl, rfl, rfl, rfl, hgl, hgk, hb0⟩ := hrel
    have HGL := Lib.hid hgl
    have HGK := Lib.hid hgk
    have B_wr := Lib.hid hb0
    have hat := hgl.hat
    have hrdl := hgl.hrd
    have htk := hgl.htk
    clear hgl hgk hb0 H0
    by_cases hrd : rd < k.length
    · obtain ⟨c, hc⟩ : ∃ c, k[rd]? = some c := ⟨_, List.getElem?_eq_getElem hrd⟩
      obtain ⟨b2, o2, hA2, _, hcl2⟩ := (HK.out.step B_wr.out) (by omega)
      have kc := hcl2 rd c hc
      subst hA2
      have HCC := Lib.hid hc
      have r1 : decide ((rd : Int) < (k.length : Int)) = true := decide_eq_true (by omega)
      have r1' : decide (rd < k.length) = true := decide_eq_true (by omega)
      have r2 : (0 : Int) ≤ (rd : Int) := by omega
      have r3 : (rd : Int) < (k.length : Int) := by omega
      have HLE := Lib.hid (gle HGL.out)
      clear hcl2 hc
      by_cases hap : at_ < p.length
      · obtain ⟨x, hx⟩ : ∃ x, p[at_]? = some x := ⟨_, List.getElem?_eq_getElem hap⟩
        obtain ⟨b1, o1, hA1, _, hcl1⟩ := (HP.out.step B_wr.out) (by omega)
        have kx := hcl1 at_ x hx
        subst hA1
        have HXX := Lib.hid hx
        have a1 : decide ((at_ : Int) < (p.length : Int)) = true := decide_eq_true (by omega)
        have a1' : decide (at_ < p.length) = true := decide_eq_true (by omega)
        have a2 : (0 : Int) ≤ (at_ : Int) := by omega
        have a3 : (at_ : Int) < (p.length : Int) := by omega
        have q1 : (x.toList == [35]) = decide (x = hashB) := eqL x [35]
        have q2 : (x.toList == [42]) = decide (x = wordB) := eqL x [42]
        have q3 : (x.toList == c.toList) = decide (x = c) := str_dec x c
        have HAP := Lib.hid hap
        clear hcl1 hx
        by_cases hh : x = hashB
        · have HN := Lib.hid (HGL.out.hash (by rw [HXX.out, hh]))
          have HM := Lib.hid (gleft_on (p := p) (k := k) HAP.out (Nat.le_of_eq rfl : tk ≤ tk))
          have HM2 := Lib.hid (gleft_on (p := p) (k := k) (tk := tk) (tk' := rd) HAP.out htk)
          rw [decide_eq_true hh] at q1
          clear hh q2 q3 hap hrd hat hrdl htk
          go_wp2_with fail
          go_roundg (gleft p k (at_ + 1) rd)
          case measure => have := HM2.out; have := HGK.out; omega
          case rel => exact ⟨at_ + 1, rd, rd, some at_, nxt at_ (by have := HN1.out; omega), rfl, rfl, rfl, HN.out, Nat.le_refl _, B_wr.out⟩
        · by_cases hm : x = wordB ∨ x = c
          · have HN := Lib.hid (HGL.out.step HXX.out HCC.out hh hm)
            have HM := Lib.hid (gleft_on (p := p) (k := k) HAP.out (Nat.le_refl tk))
            rw [decide_eq_false hh] at q1
            have hm2 : (decide (x = wordB) || decide (x = c)) = true := by simpa using hm
            generalize decide (x = wordB) = d2 at *
            generalize decide (x = c) = d3 at *
            clear hh hap hrd hat hrdl htk hm
            cases d2 <;> cases d3
            case false.false => cases hm2
            all_goals
              clear hm2
              go_wp2_with fail
              go_quiet (fail)
              rename Nat => nq
              have hb := S2.bDN wr nq
              have B2 := Lib.hid (stepB B_wr.out hb)
              clear hb
              go_wp2_with fail
              go_roundg (gleft p k (at_ + 1) tk)
              case measure => have := HM.out; have := HGK.out; omega
              case rel => exact ⟨at_ + 1, rd + 1, tk, m, nxt at_ (by have := HN1.out; omega), nxt rd (by have := HN2.out; omega), rfl, rfl, HN.out, Nat.le_refl _, B2.out⟩
          · have HNO : Hid (∀ z, p[at_]? = some z → z ≠ hashB ∧ z ≠ wordB ∧ z ≠ c) := Lib.hid (fun z hz => by rw [HXX.out] at hz; rw [← Option.some.inj hz]; exact ⟨hh, fun e => hm (Or.inl e), fun e => hm (Or.inr e)⟩)
            rw [decide_eq_false hh] at q1
            rw [decide_eq_false (fun e => hm (Or.inl e))] at q2
            rw [decide_eq_false (fun e => hm (Or.inr e))] at q3
            clear hh hm
            cases m with
            | none =>
              have HV : Hid (R = false) := Lib.hid (by rw [← HR.out]; exact HGL.out.fail HCC.out HNO.out)
              clear hap hrd hat hrdl htk
              unfold mI
              go_wp2_with fail
              go_quiet (fail)
              rename Nat => nq
              have hb := S2.bDN wr nq
              have B2 := Lib.hid (stepB B_wr.out hb)
              clear hb
              go_wp2_with fail
              go_ret
              exact ⟨retb HV.out.symm, B2.out⟩
            | some n =>
              have HN := Lib.hid (HGL.out.back HCC.out HNO.out)
              have hnl := (HGL.out.yes n rfl).1
              have HM := Lib.hid (gleft_back (p := p) (k := k) (at_ := at_) (tk := tk) (n := n) (by omega))
              have n1 : decide ((0 : Int) ≤ (n : Int)) = true := decide_eq_true (by omega)
              have HNL : Hid (n ≤ 4294967296 ∧ tk ≤ 4294967296) := Lib.hid (by have := HN1.out; have := HN2.out; exact ⟨by omega, by omega⟩)
              clear hap hrd hat hrdl htk hnl
              unfold mI
              go_wp2_with fail
              go_quiet (fail)
              rename Nat => nq
              have hb := S2.bDN wr nq
              have B2 := Lib.hid (stepB B_wr.out hb)
              clear hb
              go_wp2_with fail
              go_roundg (gleft p k (n + 1) (tk + 1))
              case measure => have := HM.out; have := HGK.out; omega
              case rel => exact ⟨n + 1, tk + 1, tk + 1, some n, nxt n (by have := HNL.out; omega), nxt tk (by have := HNL.out; omega), rfl, nxt tk (by have := HNL.out; omega), HN.out, Nat.le_refl _, B2.out⟩
      · have a1 : decide ((at_ : Int) < (p.length : Int)) = false := decide_eq_false (by omega)
        have a1' : decide (at_ < p.length) = false := decide_eq_false (by omega)
        have HNO : Hid (∀ z, p[at_]? = some z → z ≠ hashB ∧ z ≠ wordB ∧ z ≠ c) := Lib.hid (fun z hz => by have := (List.getElem?_eq_some_iff.1 hz).1; omega)
        cases m with
        | none =>
          have HV : Hid (R = false) := Lib.hid (by rw [← HR.out]; exact HGL.out.fail HCC.out HNO.out)
          clear hap hrd hat hrdl htk
          unfold mI
          go_wp2_with fail
          go_quiet (fail)
          rename Nat => nq
          have hb := S2.bDN wr nq
          have B2 := Lib.hid (stepB B_wr.out hb)
          clear hb
          go_wp2_with fail
          go_ret
          exact ⟨retb HV.out.symm, B2.out⟩
        | some n =>
          have HN := Lib.hid (HGL.out.back HCC.out HNO.out)
          have hnl := (HGL.out.yes n rfl).1
          have HM := Lib.hid (gleft_back (p := p) (k := k) (at_ := at_) (tk := tk) (n := n) (by omega))
          have n1 : decide ((0 : Int) ≤ (n : Int)) = true := decide_eq_true (by omega)
          have HNL : Hid (n ≤ 4294967296 ∧ tk ≤ 4294967296) := Lib.hid (by have := HN1.out; have := HN2.out; exact ⟨by omega, by omega⟩)
          clear hap hrd hat hrdl htk hnl
          unfold mI
          go_wp2_with fail
          go_quiet (fail)
          rename Nat => nq
          have hb := S2.bDN wr nq
          have B2 := Lib.hid (stepB B_wr.out hb)
          clear hb
          go_wp2_with fail
          go_roundg (gleft p k (n + 1) (tk + 1))
          case measure => have := HM.out; have := HGK.out; omega
          case rel => exact ⟨n + 1, tk + 1, tk + 1, some n, nxt n (by have := HNL.out; omega), nxt tk (by have := HNL.out; omega), rfl, nxt tk (by have := HNL.out; omega), HN.out, Nat.le_refl _, B2.out⟩
    · obtain rfl : rd = k.length := by omega
      have r1 : decide ((k.length : Int) < (k.length : Int)) = false := decide_eq_false (by omega)
      have r1' : decide (k.length < k.length) = false := decide_eq_false (by omega)
      have hv : R = (p.drop at_).all (fun x => decide (x = hashB)) := by rw [← HR.out]; exact HGL.out.done
      rw [← not_any] at hv
      have hsl := (HP.out.step B_wr.out).drop (k := at_) (cap := p.length) hat (Nat.le_refl _)
      have hdl : (p.drop at_).length = p.length - at_ := List.length_drop
      have a2 : (0 : Int) ≤ (at_ : Int) := by omega
      have a3 : (at_ : Int) ≤ (p.length : Int) := by omega
      have HNN : Hid ((p.drop at_).length ≤ 4294967296) := Lib.hid (by rw [List.length_drop]; have := HN1.out; omega)
      by_cases hpa : p.length = at_
      · subst hpa
        rw [if_pos rfl] at hsl
        have hco := conS_any A1 (p.length - p.length) (p.drop p.length) wr hsl HNN.out
        rw [hdl, Nat.sub_self] at hco
        have HCO := Lib.hid hco
        obtain ⟨y, hy⟩ : ∃ y, (p.drop p.length).any nhB = y := ⟨_, rfl⟩
        rw [hy] at hv HCO
        have HV := Lib.hid hv
        clear hv hsl hdl hrd hrdl htk hat hco hy
        go_wp2_with fail
        refine HCO.out.mono ?_
        rintro e w2 ⟨rfl, rfl⟩
        cases y
        all_goals
          go_wp2_with fail
          go_ret
          exact ⟨retb (by rw [HV.out]; rfl), B_wr.out⟩
      · rw [if_neg hpa] at hsl
        have hco := conS_any (A1.map (·.add at_)) (p.length - at_) (p.drop at_) wr hsl HNN.out
        rw [hdl] at hco
        have HCO := Lib.hid hco
        obtain ⟨y, hy⟩ : ∃ y, (p.drop at_).any nhB = y := ⟨_, rfl⟩
        rw [hy] at hv HCO
        have HV := Lib.hid hv
        have hpa2 : at_ < p.length := by omega
        obtain ⟨b1, o1, hA1, _, _⟩ := (HP.out.step B_wr.out) (by omega)
        subst hA1
        simp only [Option.map_some, Addr.add_lit] at HCO
        clear hv hsl hdl hrd hrdl htk hco hy
        go_wp2_with fail
        refine HCO.out.mono ?_
        rintro e w2 ⟨rfl, rfl⟩
        cases y
        all_goals
          go_wp2_with fail
          go_ret
          exact ⟨retb (by rw [HV.out]; rfl), B_wr.out⟩
end Go.Proofs.YtjkhfifnfgchgabGreatDoor
