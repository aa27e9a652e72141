/-
  What common of the program answers on the levels of two filters. Conditions: the levels are those of filters.
-/
import Derived.Test.YtoakhkiiefiebaaDoorPlain
import Derived.Deep.RegionHeld3
namespace Go.Proofs.YtoakhkiiefiebaaDoor.S1
open Go.RowKit

theorem wild_keep (x : ByteArray) (n : Int) (hn : wcI (dl x) = n) (wo W : World) (p q : Addr) (u v : Value) (hp : p.block < wo.heap.size) (hq : q.block < wo.heap.size) (h : W.cell? p = some u ∧ W.cell? q = some v ∧ Below wo.heap.size wo W) :
    Calls Tryd.prog 75 #[.string x] W fun e W' => e = .returned (.int .i32 n) ∧ W'.cell? p = some u ∧ W'.cell? q = some v ∧ Below wo.heap.size wo W' := by
  obtain ⟨h1, h2, h3⟩ := h
  have hz := h3.size
  refine (wildcard_any x W).mono fun e W' ⟨he, hb⟩ => ⟨by rw [he, hn], (hb.cell (by omega)).trans h1, (hb.cell (by omega)).trans h2, Below.step h3 hb⟩

theorem com_step {x y : ByteArray} {a b : List ByteArray} (h1 : ¬ (x = hashB ∨ y = hashB)) (h2 : ¬ (x ≠ plusB ∧ y ≠ plusB ∧ x ≠ y)) : comB (x :: a) (y :: b) = (comB a b).map (pick x y :: ·) := by
  rw [comB.eq_def]
  simp only
  rw [if_neg h1, if_neg h2]
theorem com_none {x y : ByteArray} {a b : List ByteArray} (h1 : ¬ (x = hashB ∨ y = hashB)) (h2 : x ≠ plusB ∧ y ≠ plusB ∧ x ≠ y) : comB (x :: a) (y :: b) = none := by
  rw [comB.eq_def]
  simp only
  rw [if_neg h1, if_pos h2]
theorem com_hash {x y : ByteArray} {a b : List ByteArray} (h1 : x = hashB ∨ y = hashB) : comB (x :: a) (y :: b) = tailB (x :: a) (y :: b) := by
  rw [comB.eq_def]
  simp only
  rw [if_pos h1]
theorem com_left (b : List ByteArray) : comB [] b = tailB [] b := by cases b <;> rfl
theorem com_right (a : List ByteArray) : comB a [] = tailB a [] := by cases a <;> rfl

theorem com_acc (C : Option (List ByteArray)) (p : ByteArray) (acc : List ByteArray) : (C.map (p :: ·)).map (acc ++ ·) = C.map ((acc ++ [p]) ++ ·) := by
  cases C <;> simp

theorem com_start (xs ys : List ByteArray) : comB xs ys = (comB (xs.drop 0) (ys.drop 0)).map ([] ++ ·) := by
  rw [List.drop_zero, List.drop_zero]
  cases comB xs ys <;> rfl

theorem SL.some_ {w : World} {B b o : Nat} {xs : List ByteArray} (h : SL w B (some ⟨b, o, none⟩) xs) (hn : 0 < xs.length) : b < B ∧ ∀ j x, xs[j]? = some x → w.cell? ⟨b, o + j, none⟩ = some (.string x) := by
  obtain ⟨b1, o1, e, h1, h2⟩ := h hn
  cases e
  exact ⟨h1, h2⟩

/-- a list of texts and a yes, or nil and a no, is handed back -/
def RetOpt (r : Option (List ByteArray)) (W : World) (e : Ending) (w' : World) : Prop :=
  match r with
  | none => e = .returned (.tuple #[.slice none 0 0, .bool false]) ∧ Below W.heap.size W w'
  | some zs => ∃ A c, e = .returned (.tuple #[.slice A zs.length c, .bool true]) ∧ zs.length ≤ c ∧ (A = none → c = 0) ∧ SL w' w'.heap.size A zs ∧ Below W.heap.size W w' ∧ Own w' W.heap.size (.slice A zs.length c) zs

theorem mOpen_n (A : Option Addr) (c n : Nat) (xs : List ByteArray) (w : World) (B : Nat) (h : SL w B A xs) (hn : xs.length = n) :
    Calls Tryd.prog 84 #[.slice A n c] w fun e w' => e = .returned (.bool (openB xs)) ∧ w = w' := by
  subst hn; exact mOpen_any A c xs w B h
theorem mPlain_n (A : Option Addr) (c n : Nat) (xs : List ByteArray) (w : World) (h : SL w w.heap.size A xs) (hf : ∀ x ∈ xs, LevOk x) (hx63 : xs.length ≤ 1000000) (hn : xs.length = n) :
    Calls Tryd.prog 85 #[.slice A n c] w (RetStrs2 (plainB xs) w) := by
  subst hn; exact mPlain_any A c xs w h hf hx63
theorem drop_sl {w : World} {B b o k c : Nat} {xs : List ByteArray} (h : SL w B (some ⟨b, o, none⟩) xs) (hk : k ≤ xs.length) (hc : xs.length ≤ c) (A : Option Addr) (hA : A = some ⟨b, o + k, none⟩ ∨ c = k) : SL w B A (xs.drop k) := by
  rcases hA with rfl | e
  · intro hn
    rw [List.length_drop] at hn
    obtain ⟨h1, h2⟩ := h.some_ (by omega)
    refine ⟨b, o + k, rfl, h1, fun j x hx => ?_⟩
    rw [List.getElem?_drop] at hx
    rw [Nat.add_assoc]
    exact h2 _ x hx
  · have : xs.drop k = [] := List.drop_eq_nil_of_le (by omega)
    rw [this]
    exact SL.nil _ _ _
theorem lev_all : ∀ {xs : List ByteArray}, FilOk xs → ∀ x ∈ xs, LevOk x
  | [], _, _, h => by cases h
  | y :: r, hf, x, h => by
    rcases List.mem_cons.1 h with rfl | h
    · exact hf.1
    · exact lev_all hf.2.2 x h
theorem tail_some {a b : List ByteArray} (h : openB a = true ∨ openB b = true ∨ a.length = b.length) : tailB a b = some (plainB a ++ plainB b) := by
  unfold tailB
  rcases h with h | h | h <;> simp [h]
theorem tail_none {a b : List ByteArray} (h1 : openB a = false) (h2 : openB b = false) (h3 : a.length ≠ b.length) : tailB a b = none := by
  unfold tailB
  simp [h1, h2, h3]
theorem ret_some {R : Option (List ByteArray)} {w w' : World} {v : Value} {zs : List ByteArray} (hR : R = some zs) (hown : Own w' w.heap.size v zs) (hb : Below w.heap.size w w') : RetOpt R w (.returned (.tuple #[v, .bool true])) w' := by
  subst hR
  obtain ⟨A, c, hv, hc, hn, hs⟩ := hown.ret2
  subst hv
  exact ⟨A, c, rfl, hc, hn, hs, hb, hown⟩
theorem ret_none {R : Option (List ByteArray)} {w w' : World} (hR : R = none) (hb : Below w.heap.size w w') : RetOpt R w (.returned (.tuple #[.slice none 0 0, .bool false])) w' := by
  subst hR
  exact ⟨rfl, hb⟩

set_option maxHeartbeats 4000000 in
set_option maxRecDepth 100000 in
theorem mCommon_any (b o b' o' : Nat) (c c' : Nat) (xs ys : List ByteArray) (w : World) (h : SL w w.heap.size (some ⟨b, o, none⟩) xs) (h' : SL w w.heap.size (some ⟨b', o', none⟩) ys) (hf : FilOk xs) (hf' : FilOk ys)
    (hxc : xs.length ≤ c) (hyc : ys.length ≤ c') (hx63 : xs.length ≤ 1000) (hy63 : ys.length ≤ 1000) :
    Calls Tryd.prog 73 #[.slice (some ⟨b, o, none⟩) xs.length c, .slice (some ⟨b', o', none⟩) ys.length c'] w (RetOpt (comB xs ys) w) := by
  have hst := com_start xs ys
  generalize hR : comB xs ys = R at hst ⊢
  have HST := Lib.hid hst
  clear hst hR
  have HS := Lib.hid h
  have HS' := Lib.hid h'
  have HFO := Lib.hid hf
  have HFO' := Lib.hid hf'
  clear h h' hf hf'
  go_enter Tryd.func73, Tryd.ntmps73
  go_wp2
  go_step3
  go_wp2
  go_step3
  go_wp2
  go_loopg [6, 7] xs.length (fun g u v wr => ∃ (k : Nat) (acc : List ByteArray), k + g = xs.length ∧ v = .int .i64 k ∧ k ≤ ys.length ∧ acc.length = k ∧ Own wr w.heap.size u acc ∧ R = (comB (xs.drop k) (ys.drop k)).map (acc ++ ·) ∧
    FilOk (xs.drop k) ∧ FilOk (ys.drop k) ∧ Below w.heap.size w wr)
  case atStart => exact ⟨0, [], by omega, rfl, by omega, rfl, Own.nil _ _, HST.out, HFO.out, HFO'.out, Below.refl _ _⟩
  case round =>
    obtain ⟨k, acc, hkg, rfl, hky, hal, hown, hcom, hfo, hfo', hb⟩ := hrel
    have HC := Lib.hid hcom
    have HO := Lib.hid hown
    have HB := Lib.hid hb
    have HFX := Lib.hid hfo
    have HFY := Lib.hid hfo'
    have HAL := Lib.hid hal
    have hsl := HS.out.at_ hb
    have hsl' := HS'.out.at_ hb
    clear hcom hown hb hfo hfo' hal
    by_cases hin : k < xs.length ∧ k < ys.length
    · obtain ⟨hlt, hlt'⟩ := hin
      obtain ⟨g, rfl⟩ : ∃ g, gk = g + 1 := ⟨gk - 1, by omega⟩
      have HG := Lib.hid hkg
      obtain ⟨hbB, hcl⟩ := hsl.some_ (by omega)
      obtain ⟨hbB', hcl'⟩ := hsl'.some_ (by omega)
      obtain ⟨x, hx⟩ : ∃ x, xs[k]? = some x := ⟨_, List.getElem?_eq_getElem hlt⟩
      obtain ⟨y, hy⟩ : ∃ y, ys[k]? = some y := ⟨_, List.getElem?_eq_getElem hlt'⟩
      have k1 := hcl k x hx
      have k2 := hcl' k y hy
      have HDX := Lib.hid (drop_at hx)
      have HDY := Lib.hid (drop_at hy)
      have hfx := HFX.out
      have hfy := HFY.out
      rw [HDX.out] at hfx
      rw [HDY.out] at hfy
      have HLX := Lib.hid hfx.1
      have HLY := Lib.hid hfy.1
      have HTX := Lib.hid hfx.2.2
      have HTY := Lib.hid hfy.2.2
      obtain ⟨nx, hnx⟩ : ∃ n, wcI (dl x) = n := ⟨_, rfl⟩
      obtain ⟨ny, hny⟩ : ∃ n, wcI (dl y) = n := ⟨_, rfl⟩
      have HNX := Lib.hid hnx
      have HNY := Lib.hid hny
      obtain ⟨wo, rfl⟩ : ∃ wo : World, wo = wr := ⟨_, rfl⟩
      have hbo : Below wo.heap.size wo wo.drew := ⟨rfl, rfl, rfl, Nat.le_refl _, fun _ _ => rfl⟩
      clear hcl hcl' hx hy hkg hsl hsl' hnx hny hfx hfy
      go_wp2
      go_region_held3 (fun w' => w'.cell? ⟨b, o + k, none⟩ = some (.string x) ∧ w'.cell? ⟨b', o' + k, none⟩ = some (.string y) ∧ Below wo.heap.size wo w')
        (first | exact ⟨g1, g2, g3⟩ | exact ⟨k1, k2, hbo⟩ | go_keep)
        (first
          | (go_at_call 75; (with_reducible refine (wild_keep x nx HNX.out wo _ ⟨b, o + k, none⟩ ⟨b', o' + k, none⟩ (.string x) (.string y) hbB hbB' ?_).mono ?_); (first | exact ⟨g1, g2, g3⟩ | exact ⟨k1, k2, hbo⟩); rintro e w2 ⟨rfl, g1, g2, g3⟩)
          | (go_at_call 75; (with_reducible refine (wild_keep y ny HNY.out wo _ ⟨b, o + k, none⟩ ⟨b', o' + k, none⟩ (.string x) (.string y) hbB hbB' ?_).mono ?_); (first | exact ⟨g1, g2, g3⟩ | exact ⟨k1, k2, hbo⟩); rintro e w2 ⟨rfl, g1, g2, g3⟩))
      clear k1 k2 hbo
      have HG3 := Lib.hid g3
      by_cases hhash : x = hashB ∨ y = hashB
      · have hcm : comB (xs.drop k) (ys.drop k) = tailB (xs.drop k) (ys.drop k) := by rw [HDX.out, HDY.out]; exact com_hash hhash
        have HCM := Lib.hid hcm
        have hown := HO.out.below HG3.out
        have hbz := Below.step HB.out HG3.out
        have hsl := HS.out.at_ hbz
        have hsl' := HS'.out.at_ hbz
        have q : (nx = 35) ∨ (nx ≠ 35 ∧ ny = 35) := by
          rcases HLX.out with h | h | h
          · rcases hhash with h2 | h2
            · left; rw [← HNX.out, h2]; exact wcI_hash
            · right; rw [← HNX.out, ← HNY.out, h, h2, wcI_plus, wcI_hash]; decide
          · left; rw [← HNX.out, h]; exact wcI_hash
          · rcases hhash with h2 | h2
            · left; rw [← HNX.out, h2]; exact wcI_hash
            · right; rw [← HNX.out, ← HNY.out, wcI_none h, h2, wcI_hash]; decide
        clear hcm hhash HNX HNY
        rcases q with q | ⟨q1, q2⟩
        · subst q
          have hk1 : k ≤ xs.length := by omega
          have hk2 : k ≤ ys.length := by omega
          have e1 : True := trivial
          have e2 : True := trivial
          go_wp2
          have SX := fun A hA => drop_sl (A := A) (c := c) hsl hk1 hxc hA
          have SY := fun A hA => drop_sl (A := A) (c := c') hsl' hk2 hyc hA
          have SYW : Hid (∀ W, Below w.heap.size w W → ∀ A, (A = some ⟨b', o' + k, none⟩ ∨ c' = k) → SL W W.heap.size A (ys.drop k)) := Lib.hid (fun W hW A hA => drop_sl (A := A) (c := c') (HS'.out.at_ hW) hk2 hyc hA)
          have hzxl : (xs.drop k).length = xs.length - k := List.length_drop
          have hzyl : (ys.drop k).length = ys.length - k := List.length_drop
          have HLZX := Lib.hid (lev_all HFX.out)
          have HLZY := Lib.hid (lev_all HFY.out)
          have hpx := plain_le (xs.drop k)
          have hpy := plain_le (ys.drop k)
          have hal := HAL.out
          generalize xs.drop k = zx at *
          generalize ys.drop k = zy at *
          have HZX := Lib.hid hzxl
          have HZY := Lib.hid hzyl
          have hal' : acc.length ≤ 1000 := by omega
          have hpx' : (plainB zx).length ≤ 1000 := by omega
          have hpy' : (plainB zy).length ≤ 1000 := by omega
          have hzx' : zx.length ≤ 1000 := by omega
          have hzy' : zy.length ≤ 1000 := by omega
          clear hal hpx hpy hsl hsl' hzxl hzyl
          go_quiet (fail)
          obtain ⟨wz, hwz⟩ : ∃ wz, (w2).drewN nq = wz := ⟨_, rfl⟩
          have hbd : Below (w2).heap.size (w2) wz := by rw [← hwz]; exact below_draw _ _
          rw [hwz]
          clear hwz
          have hbz2 := Below.step hbz hbd
          have hown2 := hown.below hbd
          have SX2 := fun A hA => (SX A hA).step hbd
          have SY2 := fun A hA => (SY A hA).step hbd
          clear hbd SX SY hbz hown
          have hzxl := HZX.out
          have hzyl := HZY.out
          have HL1 := Lib.hid hzxl
          have HL2 := Lib.hid hzyl
          have co1 := fun (A : Option Addr) (cc n : Nat) (hA : A = some ⟨b, o + k, none⟩ ∨ c = k) (hn : zx.length = n) => mOpen_n A cc n zx wz _ (SX2 A hA) hn
          have co2 := fun (A : Option Addr) (cc n : Nat) (hA : A = some ⟨b', o' + k, none⟩ ∨ c' = k) (hn : zy.length = n) => mOpen_n A cc n zy wz _ (SY2 A hA) hn
          cases hoa : openB zx
          · rw [hoa] at co1
            cases hob : openB zy
            · rw [hob] at co2
              by_cases hll : zx.length = zy.length
              · have TS : openB zx = true ∨ openB zy = true ∨ zx.length = zy.length := .inr (.inr hll)
                have qn : (((xs.length - k : Nat) : Int) != ((ys.length - k : Nat) : Int)) = false := by rw [← hzxl, ← hzyl, hll]; simp
                clear hll hoa hob
                go_wp2_with fail
                refine (co1 _ _ _ (by first | exact Or.inl rfl | exact Or.inr e1) hzxl).mono ?_
                rintro e w3 ⟨rfl, rfl⟩
                go_wp2_with fail
                refine (co2 _ _ _ (by first | exact Or.inl rfl | exact Or.inr e2) hzyl).mono ?_
                rintro e w3 ⟨rfl, rfl⟩
                clear co1 co2
                go_wp2_with fail
                refine (mPlain_n _ _ _ zx wz (SX2 _ (by first | exact Or.inl rfl | exact Or.inr e1)) HLZX.out (by omega) hzxl).mono ?_
                rintro e w4 ⟨A4, c4, rfl, hc4, hn4, hsl4, hb4⟩
                have hown4 := hown2.below hb4
                have hbz4 := Below.step hbz2 hb4
                have hsz4 := hbz4.size
                have SY4 := fun A hA => (SY2 A hA).step hb4
                have HB4 := Lib.hid hb4
                clear hb4
                go_wp2_with (at_builtin; refine wpList_appMany _ rfl _ _ rfl w.heap.size u6 acc (plainB zx) rfl hown4 A4 c4 rfl hn4 hsl4 w hbz4 hsz4 (by omega) ?_; intro v5 w5 hown5 hb5 hsz5)
                refine (mPlain_n _ _ _ zy w5 (SYW.out w5 hb5 _ (by first | exact Or.inl rfl | exact Or.inr e2)) HLZY.out (by omega) hzyl).mono ?_
                rintro e w6 ⟨A6, c6, rfl, hc6, hn6, hsl6, hb6⟩
                have hown6 := hown5.below hb6
                have hbz6 : Below w.heap.size w w6 := Below.step hb5 hb6
                have hsz6 := hbz6.size
                have HB6 := Lib.hid hb6
                clear hb6
                go_wp2_with (at_builtin; refine wpList_appMany _ rfl _ _ rfl w.heap.size v5 (acc ++ plainB zx) (plainB zy) rfl hown6 A6 c6 rfl hn6 hsl6 w hbz6 hsz6 (by rw [List.length_append]; omega) ?_; intro v7 w7 hown7 hb7 hsz7)
                try rw [Exit.noGoto_ret]
                go_ret2
                exact ret_some (by rw [HC.out, HCM.out, tail_some TS]; simp) hown7 hb7
              · have TN := tail_none hoa hob hll
                have qn : (((xs.length - k : Nat) : Int) != ((ys.length - k : Nat) : Int)) = true := by rw [← hzxl, ← hzyl, bne_iff_ne]; omega
                have HTN := Lib.hid TN
                clear hll hoa hob TN
                go_wp2_with fail
                refine (co1 _ _ _ (by first | exact Or.inl rfl | exact Or.inr e1) hzxl).mono ?_
                rintro e w3 ⟨rfl, rfl⟩
                go_wp2_with fail
                refine (co2 _ _ _ (by first | exact Or.inl rfl | exact Or.inr e2) hzyl).mono ?_
                rintro e w3 ⟨rfl, rfl⟩
                clear co1 co2 hzxl hzyl
                go_wp2_with fail
                try rw [Exit.noGoto_ret]
                go_ret2
                exact ret_none (by rw [HC.out, HCM.out, HTN.out]; rfl) hbz2
            · have TS : openB zx = true ∨ openB zy = true ∨ zx.length = zy.length := .inr (.inl hob)
              rw [hob] at co2
              clear hoa hob
              go_wp2_with fail
              refine (co1 _ _ _ (by first | exact Or.inl rfl | exact Or.inr e1) hzxl).mono ?_
              rintro e w3 ⟨rfl, rfl⟩
              go_wp2_with fail
              refine (co2 _ _ _ (by first | exact Or.inl rfl | exact Or.inr e2) hzyl).mono ?_
              rintro e w3 ⟨rfl, rfl⟩
              clear co1 co2
              go_wp2_with fail
              refine (mPlain_n _ _ _ zx wz (SX2 _ (by first | exact Or.inl rfl | exact Or.inr e1)) HLZX.out (by omega) hzxl).mono ?_
              rintro e w4 ⟨A4, c4, rfl, hc4, hn4, hsl4, hb4⟩
              have hown4 := hown2.below hb4
              have hbz4 := Below.step hbz2 hb4
              have hsz4 := hbz4.size
              have SY4 := fun A hA => (SY2 A hA).step hb4
              have HB4 := Lib.hid hb4
              clear hb4
              go_wp2_with (at_builtin; refine wpList_appMany _ rfl _ _ rfl w.heap.size u6 acc (plainB zx) rfl hown4 A4 c4 rfl hn4 hsl4 w hbz4 hsz4 (by omega) ?_; intro v5 w5 hown5 hb5 hsz5)
              refine (mPlain_n _ _ _ zy w5 (SYW.out w5 hb5 _ (by first | exact Or.inl rfl | exact Or.inr e2)) HLZY.out (by omega) hzyl).mono ?_
              rintro e w6 ⟨A6, c6, rfl, hc6, hn6, hsl6, hb6⟩
              have hown6 := hown5.below hb6
              have hbz6 : Below w.heap.size w w6 := Below.step hb5 hb6
              have hsz6 := hbz6.size
              have HB6 := Lib.hid hb6
              clear hb6
              go_wp2_with (at_builtin; refine wpList_appMany _ rfl _ _ rfl w.heap.size v5 (acc ++ plainB zx) (plainB zy) rfl hown6 A6 c6 rfl hn6 hsl6 w hbz6 hsz6 (by rw [List.length_append]; omega) ?_; intro v7 w7 hown7 hb7 hsz7)
              try rw [Exit.noGoto_ret]
              go_ret2
              exact ret_some (by rw [HC.out, HCM.out, tail_some TS]; simp) hown7 hb7
          · have TS : openB zx = true ∨ openB zy = true ∨ zx.length = zy.length := .inl hoa
            rw [hoa] at co1
            clear hoa
            go_wp2_with fail
            refine (co1 _ _ _ (by first | exact Or.inl rfl | exact Or.inr e1) hzxl).mono ?_
            rintro e w3 ⟨rfl, rfl⟩
            clear co1 co2
            go_wp2_with fail
            refine (mPlain_n _ _ _ zx wz (SX2 _ (by first | exact Or.inl rfl | exact Or.inr e1)) HLZX.out (by omega) hzxl).mono ?_
            rintro e w4 ⟨A4, c4, rfl, hc4, hn4, hsl4, hb4⟩
            have hown4 := hown2.below hb4
            have hbz4 := Below.step hbz2 hb4
            have hsz4 := hbz4.size
            have SY4 := fun A hA => (SY2 A hA).step hb4
            have HB4 := Lib.hid hb4
            clear hb4
            go_wp2_with (at_builtin; refine wpList_appMany _ rfl _ _ rfl w.heap.size u6 acc (plainB zx) rfl hown4 A4 c4 rfl hn4 hsl4 w hbz4 hsz4 (by omega) ?_; intro v5 w5 hown5 hb5 hsz5)
            refine (mPlain_n _ _ _ zy w5 (SYW.out w5 hb5 _ (by first | exact Or.inl rfl | exact Or.inr e2)) HLZY.out (by omega) hzyl).mono ?_
            rintro e w6 ⟨A6, c6, rfl, hc6, hn6, hsl6, hb6⟩
            have hown6 := hown5.below hb6
            have hbz6 : Below w.heap.size w w6 := Below.step hb5 hb6
            have hsz6 := hbz6.size
            have HB6 := Lib.hid hb6
            clear hb6
            go_wp2_with (at_builtin; refine wpList_appMany _ rfl _ _ rfl w.heap.size v5 (acc ++ plainB zx) (plainB zy) rfl hown6 A6 c6 rfl hn6 hsl6 w hbz6 hsz6 (by rw [List.length_append]; omega) ?_; intro v7 w7 hown7 hb7 hsz7)
            try rw [Exit.noGoto_ret]
            go_ret2
            exact ret_some (by rw [HC.out, HCM.out, tail_some TS]; simp) hown7 hb7
        · subst q2
          have q3 : (nx == 35) = false := beq_eq_false_iff_ne.2 q1
          clear q1
          have hk1 : k ≤ xs.length := by omega
          have hk2 : k ≤ ys.length := by omega
          have e1 : True := trivial
          have e2 : True := trivial
          go_wp2
          have SX := fun A hA => drop_sl (A := A) (c := c) hsl hk1 hxc hA
          have SY := fun A hA => drop_sl (A := A) (c := c') hsl' hk2 hyc hA
          have SYW : Hid (∀ W, Below w.heap.size w W → ∀ A, (A = some ⟨b', o' + k, none⟩ ∨ c' = k) → SL W W.heap.size A (ys.drop k)) := Lib.hid (fun W hW A hA => drop_sl (A := A) (c := c') (HS'.out.at_ hW) hk2 hyc hA)
          have hzxl : (xs.drop k).length = xs.length - k := List.length_drop
          have hzyl : (ys.drop k).length = ys.length - k := List.length_drop
          have HLZX := Lib.hid (lev_all HFX.out)
          have HLZY := Lib.hid (lev_all HFY.out)
          have hpx := plain_le (xs.drop k)
          have hpy := plain_le (ys.drop k)
          have hal := HAL.out
          generalize xs.drop k = zx at *
          generalize ys.drop k = zy at *
          have HZX := Lib.hid hzxl
          have HZY := Lib.hid hzyl
          have hal' : acc.length ≤ 1000 := by omega
          have hpx' : (plainB zx).length ≤ 1000 := by omega
          have hpy' : (plainB zy).length ≤ 1000 := by omega
          have hzx' : zx.length ≤ 1000 := by omega
          have hzy' : zy.length ≤ 1000 := by omega
          clear hal hpx hpy hsl hsl' hzxl hzyl
          go_quiet (fail)
          obtain ⟨wz, hwz⟩ : ∃ wz, (w2).drewN nq = wz := ⟨_, rfl⟩
          have hbd : Below (w2).heap.size (w2) wz := by rw [← hwz]; exact below_draw _ _
          rw [hwz]
          clear hwz
          have hbz2 := Below.step hbz hbd
          have hown2 := hown.below hbd
          have SX2 := fun A hA => (SX A hA).step hbd
          have SY2 := fun A hA => (SY A hA).step hbd
          clear hbd SX SY hbz hown
          have hzxl := HZX.out
          have hzyl := HZY.out
          have HL1 := Lib.hid hzxl
          have HL2 := Lib.hid hzyl
          have co1 := fun (A : Option Addr) (cc n : Nat) (hA : A = some ⟨b, o + k, none⟩ ∨ c = k) (hn : zx.length = n) => mOpen_n A cc n zx wz _ (SX2 A hA) hn
          have co2 := fun (A : Option Addr) (cc n : Nat) (hA : A = some ⟨b', o' + k, none⟩ ∨ c' = k) (hn : zy.length = n) => mOpen_n A cc n zy wz _ (SY2 A hA) hn
          cases hoa : openB zx
          · rw [hoa] at co1
            cases hob : openB zy
            · rw [hob] at co2
              by_cases hll : zx.length = zy.length
              · have TS : openB zx = true ∨ openB zy = true ∨ zx.length = zy.length := .inr (.inr hll)
                have qn : (((xs.length - k : Nat) : Int) != ((ys.length - k : Nat) : Int)) = false := by rw [← hzxl, ← hzyl, hll]; simp
                clear hll hoa hob
                go_wp2_with fail
                refine (co1 _ _ _ (by first | exact Or.inl rfl | exact Or.inr e1) hzxl).mono ?_
                rintro e w3 ⟨rfl, rfl⟩
                go_wp2_with fail
                refine (co2 _ _ _ (by first | exact Or.inl rfl | exact Or.inr e2) hzyl).mono ?_
                rintro e w3 ⟨rfl, rfl⟩
                clear co1 co2
                go_wp2_with fail
                refine (mPlain_n _ _ _ zx wz (SX2 _ (by first | exact Or.inl rfl | exact Or.inr e1)) HLZX.out (by omega) hzxl).mono ?_
                rintro e w4 ⟨A4, c4, rfl, hc4, hn4, hsl4, hb4⟩
                have hown4 := hown2.below hb4
                have hbz4 := Below.step hbz2 hb4
                have hsz4 := hbz4.size
                have SY4 := fun A hA => (SY2 A hA).step hb4
                have HB4 := Lib.hid hb4
                clear hb4
                go_wp2_with (at_builtin; refine wpList_appMany _ rfl _ _ rfl w.heap.size u6 acc (plainB zx) rfl hown4 A4 c4 rfl hn4 hsl4 w hbz4 hsz4 (by omega) ?_; intro v5 w5 hown5 hb5 hsz5)
                refine (mPlain_n _ _ _ zy w5 (SYW.out w5 hb5 _ (by first | exact Or.inl rfl | exact Or.inr e2)) HLZY.out (by omega) hzyl).mono ?_
                rintro e w6 ⟨A6, c6, rfl, hc6, hn6, hsl6, hb6⟩
                have hown6 := hown5.below hb6
                have hbz6 : Below w.heap.size w w6 := Below.step hb5 hb6
                have hsz6 := hbz6.size
                have HB6 := Lib.hid hb6
                clear hb6
                go_wp2_with (at_builtin; refine wpList_appMany _ rfl _ _ rfl w.heap.size v5 (acc ++ plainB zx) (plainB zy) rfl hown6 A6 c6 rfl hn6 hsl6 w hbz6 hsz6 (by rw [List.length_append]; omega) ?_; intro v7 w7 hown7 hb7 hsz7)
                try rw [Exit.noGoto_ret]
                go_ret2
                exact ret_some (by rw [HC.out, HCM.out, tail_some TS]; simp) hown7 hb7
              · have TN := tail_none hoa hob hll
                have qn : (((xs.length - k : Nat) : Int) != ((ys.length - k : Nat) : Int)) = true := by rw [← hzxl, ← hzyl, bne_iff_ne]; omega
                have HTN := Lib.hid TN
                clear hll hoa hob TN
                go_wp2_with fail
                refine (co1 _ _ _ (by first | exact Or.inl rfl | exact Or.inr e1) hzxl).mono ?_
                rintro e w3 ⟨rfl, rfl⟩
                go_wp2_with fail
                refine (co2 _ _ _ (by first | exact Or.inl rfl | exact Or.inr e2) hzyl).mono ?_
                rintro e w3 ⟨rfl, rfl⟩
                clear co1 co2 hzxl hzyl
                go_wp2_with fail
                try rw [Exit.noGoto_ret]
                go_ret2
                exact ret_none (by rw [HC.out, HCM.out, HTN.out]; rfl) hbz2
            · have TS : openB zx = true ∨ openB zy = true ∨ zx.length = zy.length := .inr (.inl hob)
              rw [hob] at co2
              clear hoa hob
              go_wp2_with fail
              refine (co1 _ _ _ (by first | exact Or.inl rfl | exact Or.inr e1) hzxl).mono ?_
              rintro e w3 ⟨rfl, rfl⟩
              go_wp2_with fail
              refine (co2 _ _ _ (by first | exact Or.inl rfl | exact Or.inr e2) hzyl).mono ?_
              rintro e w3 ⟨rfl, rfl⟩
              clear co1 co2
              go_wp2_with fail
              refine (mPlain_n _ _ _ zx wz (SX2 _ (by first | exact Or.inl rfl | exact Or.inr e1)) HLZX.out (by omega) hzxl).mono ?_
              rintro e w4 ⟨A4, c4, rfl, hc4, hn4, hsl4, hb4⟩
              have hown4 := hown2.below hb4
              have hbz4 := Below.step hbz2 hb4
              have hsz4 := hbz4.size
              have SY4 := fun A hA => (SY2 A hA).step hb4
              have HB4 := Lib.hid hb4
              clear hb4
              go_wp2_with (at_builtin; refine wpList_appMany _ rfl _ _ rfl w.heap.size u6 acc (plainB zx) rfl hown4 A4 c4 rfl hn4 hsl4 w hbz4 hsz4 (by omega) ?_; intro v5 w5 hown5 hb5 hsz5)
              refine (mPlain_n _ _ _ zy w5 (SYW.out w5 hb5 _ (by first | exact Or.inl rfl | exact Or.inr e2)) HLZY.out (by omega) hzyl).mono ?_
              rintro e w6 ⟨A6, c6, rfl, hc6, hn6, hsl6, hb6⟩
              have hown6 := hown5.below hb6
              have hbz6 : Below w.heap.size w w6 := Below.step hb5 hb6
              have hsz6 := hbz6.size
              have HB6 := Lib.hid hb6
              clear hb6
              go_wp2_with (at_builtin; refine wpList_appMany _ rfl _ _ rfl w.heap.size v5 (acc ++ plainB zx) (plainB zy) rfl hown6 A6 c6 rfl hn6 hsl6 w hbz6 hsz6 (by rw [List.length_append]; omega) ?_; intro v7 w7 hown7 hb7 hsz7)
              try rw [Exit.noGoto_ret]
              go_ret2
              exact ret_some (by rw [HC.out, HCM.out, tail_some TS]; simp) hown7 hb7
          · have TS : openB zx = true ∨ openB zy = true ∨ zx.length = zy.length := .inl hoa
            rw [hoa] at co1
            clear hoa
            go_wp2_with fail
            refine (co1 _ _ _ (by first | exact Or.inl rfl | exact Or.inr e1) hzxl).mono ?_
            rintro e w3 ⟨rfl, rfl⟩
            clear co1 co2
            go_wp2_with fail
            refine (mPlain_n _ _ _ zx wz (SX2 _ (by first | exact Or.inl rfl | exact Or.inr e1)) HLZX.out (by omega) hzxl).mono ?_
            rintro e w4 ⟨A4, c4, rfl, hc4, hn4, hsl4, hb4⟩
            have hown4 := hown2.below hb4
            have hbz4 := Below.step hbz2 hb4
            have hsz4 := hbz4.size
            have SY4 := fun A hA => (SY2 A hA).step hb4
            have HB4 := Lib.hid hb4
            clear hb4
            go_wp2_with (at_builtin; refine wpList_appMany _ rfl _ _ rfl w.heap.size u6 acc (plainB zx) rfl hown4 A4 c4 rfl hn4 hsl4 w hbz4 hsz4 (by omega) ?_; intro v5 w5 hown5 hb5 hsz5)
            refine (mPlain_n _ _ _ zy w5 (SYW.out w5 hb5 _ (by first | exact Or.inl rfl | exact Or.inr e2)) HLZY.out (by omega) hzyl).mono ?_
            rintro e w6 ⟨A6, c6, rfl, hc6, hn6, hsl6, hb6⟩
            have hown6 := hown5.below hb6
            have hbz6 : Below w.heap.size w w6 := Below.step hb5 hb6
            have hsz6 := hbz6.size
            have HB6 := Lib.hid hb6
            clear hb6
            go_wp2_with (at_builtin; refine wpList_appMany _ rfl _ _ rfl w.heap.size v5 (acc ++ plainB zx) (plainB zy) rfl hown6 A6 c6 rfl hn6 hsl6 w hbz6 hsz6 (by rw [List.length_append]; omega) ?_; intro v7 w7 hown7 hb7 hsz7)
            try rw [Exit.noGoto_ret]
            go_ret2
            exact ret_some (by rw [HC.out, HCM.out, tail_some TS]; simp) hown7 hb7
      · have hh1 : x ≠ hashB := fun h => hhash (.inl h)
        have hh2 : y ≠ hashB := fun h => hhash (.inr h)
        have hx43 : (x = plusB ∧ nx = 43) ∨ (x ≠ plusB ∧ nx = 0) := by
          rcases HLX.out with h | h | h
          · exact .inl ⟨h, by rw [← HNX.out, h]; exact wcI_plus⟩
          · exact absurd h hh1
          · exact .inr ⟨fun e => by subst e; exact absurd h (by decide +kernel), by rw [← HNX.out]; exact wcI_none h⟩
        have hy43 : (y = plusB ∧ ny = 43) ∨ (y ≠ plusB ∧ ny = 0) := by
          rcases HLY.out with h | h | h
          · exact .inl ⟨h, by rw [← HNY.out, h]; exact wcI_plus⟩
          · exact absurd h hh2
          · exact .inr ⟨fun e => by subst e; exact absurd h (by decide +kernel), by rw [← HNY.out]; exact wcI_none h⟩
        have HST2 : Hid (¬ (x ≠ plusB ∧ y ≠ plusB ∧ x ≠ y) → R = (comB (xs.drop (k + 1)) (ys.drop (k + 1))).map ((acc ++ [pick x y]) ++ ·)) := Lib.hid (fun h2 => by
          rw [HC.out, HDX.out, HDY.out, com_step hhash h2]
          exact com_acc _ _ _)
        have HNN : Hid (x ≠ plusB ∧ y ≠ plusB ∧ x ≠ y → R = none) := Lib.hid (fun h2 => by
          rw [HC.out, HDX.out, HDY.out, com_none hhash h2]; rfl)
        clear HNX HNY hhash hh1 hh2
        rcases hx43 with ⟨hxp, rfl⟩ | ⟨hxp, rfl⟩
        · rcases hy43 with ⟨hyp, rfl⟩ | ⟨hyp, rfl⟩
          · have HRR : Hid (R = (comB (xs.drop (k + 1)) (ys.drop (k + 1))).map ((acc ++ [⟨#[120]⟩]) ++ ·)) := Lib.hid (by
              have := HST2.out (fun h => h.1 hxp)
              rw [show pick x y = ⟨#[120]⟩ by unfold pick; rw [if_neg (by simp [hxp]), if_neg (by simp [hyp])]; rfl] at this
              exact this)
            clear hxp hyp
            go_wp2
            go_quiet (fail)
            obtain ⟨w3, hw3⟩ : ∃ w3, w2.drewN nq = w3 := ⟨_, rfl⟩
            have g1' : w3.cell? ⟨b, o + k, none⟩ = some (.string x) := by rw [← hw3]; exact g1
            have g2' : w3.cell? ⟨b', o' + k, none⟩ = some (.string y) := by rw [← hw3]; exact g2
            have hb3 : Below wo.heap.size wo w3 := by rw [← hw3]; exact Below.step g3 (below_draw _ _)
            rw [hw3]
            clear hw3 g1 g2 g3
            have hown3 := HO.out.below hb3
            have hbz3 := Below.step HB.out hb3
            have hsz3 := hbz3.size
            clear hb3
            have hal := HAL.out
            have hal' : acc.length ≤ 1000 := by omega
            clear hal
            go_wp2_with (at_builtin; refine wpList_app1 _ rfl _ _ rfl w.heap.size u6 acc ⟨#[120]⟩ rfl hown3 rfl w hbz3 hsz3 (by omega) ?_; intro v' w4 hown4 hb4 hsz4)
            go_roundg g
            case measure => omega
            case rel => exact ⟨k + 1, acc ++ [⟨#[120]⟩], by have := HG.out; omega, by go_num, by omega, by simp [HAL.out], hown4, HRR.out, HTX.out, HTY.out, hb4⟩
          · have HRR : Hid (R = (comB (xs.drop (k + 1)) (ys.drop (k + 1))).map ((acc ++ [y]) ++ ·)) := Lib.hid (by
              have := HST2.out (fun h => h.1 hxp)
              rw [show pick x y = y by unfold pick; rw [if_neg (by simp [hxp]), if_pos hyp]] at this
              exact this)
            clear hxp hyp
            go_wp2
            go_quiet (fail)
            obtain ⟨w3, hw3⟩ : ∃ w3, w2.drewN nq = w3 := ⟨_, rfl⟩
            have g1' : w3.cell? ⟨b, o + k, none⟩ = some (.string x) := by rw [← hw3]; exact g1
            have g2' : w3.cell? ⟨b', o' + k, none⟩ = some (.string y) := by rw [← hw3]; exact g2
            have hb3 : Below wo.heap.size wo w3 := by rw [← hw3]; exact Below.step g3 (below_draw _ _)
            rw [hw3]
            clear hw3 g1 g2 g3
            have hown3 := HO.out.below hb3
            have hbz3 := Below.step HB.out hb3
            have hsz3 := hbz3.size
            clear hb3
            have hal := HAL.out
            have hal' : acc.length ≤ 1000 := by omega
            clear hal
            go_wp2_with (at_builtin; refine wpList_app1 _ rfl _ _ rfl w.heap.size u6 acc y rfl hown3 rfl w hbz3 hsz3 (by omega) ?_; intro v' w4 hown4 hb4 hsz4)
            go_roundg g
            case measure => omega
            case rel => exact ⟨k + 1, acc ++ [y], by have := HG.out; omega, by go_num, by omega, by simp [HAL.out], hown4, HRR.out, HTX.out, HTY.out, hb4⟩
        · rcases hy43 with ⟨hyp, rfl⟩ | ⟨hyp, rfl⟩
          · have HRR : Hid (R = (comB (xs.drop (k + 1)) (ys.drop (k + 1))).map ((acc ++ [x]) ++ ·)) := Lib.hid (by
              have := HST2.out (fun h => h.2.1 hyp)
              rw [show pick x y = x by unfold pick; rw [if_pos hxp]] at this
              exact this)
            clear hxp hyp
            go_wp2
            go_quiet (fail)
            obtain ⟨w3, hw3⟩ : ∃ w3, w2.drewN nq = w3 := ⟨_, rfl⟩
            have g1' : w3.cell? ⟨b, o + k, none⟩ = some (.string x) := by rw [← hw3]; exact g1
            have g2' : w3.cell? ⟨b', o' + k, none⟩ = some (.string y) := by rw [← hw3]; exact g2
            have hb3 : Below wo.heap.size wo w3 := by rw [← hw3]; exact Below.step g3 (below_draw _ _)
            rw [hw3]
            clear hw3 g1 g2 g3
            have hown3 := HO.out.below hb3
            have hbz3 := Below.step HB.out hb3
            have hsz3 := hbz3.size
            clear hb3
            have hal := HAL.out
            have hal' : acc.length ≤ 1000 := by omega
            clear hal
            go_wp2_with (at_builtin; refine wpList_app1 _ rfl _ _ rfl w.heap.size u6 acc x rfl hown3 rfl w hbz3 hsz3 (by omega) ?_; intro v' w4 hown4 hb4 hsz4)
            go_roundg g
            case measure => omega
            case rel => exact ⟨k + 1, acc ++ [x], by have := HG.out; omega, by go_num, by omega, by simp [HAL.out], hown4, HRR.out, HTX.out, HTY.out, hb4⟩
          · by_cases hxy : x = y
            · have HRR : Hid (R = (comB (xs.drop (k + 1)) (ys.drop (k + 1))).map ((acc ++ [x]) ++ ·)) := Lib.hid (by
                have := HST2.out (fun h => h.2.2 hxy)
                rw [show pick x y = x by unfold pick; rw [if_pos hxp]] at this
                exact this)
              subst hxy
              clear hxp hyp
              go_wp2
              go_quiet (fail)
              obtain ⟨w3, hw3⟩ : ∃ w3, w2.drewN nq = w3 := ⟨_, rfl⟩
              have g1' : w3.cell? ⟨b, o + k, none⟩ = some (.string x) := by rw [← hw3]; exact g1
              have g2' : w3.cell? ⟨b', o' + k, none⟩ = some (.string x) := by rw [← hw3]; exact g2
              have hb3 : Below wo.heap.size wo w3 := by rw [← hw3]; exact Below.step g3 (below_draw _ _)
              rw [hw3]
              clear hw3 g1 g2 g3
              have hown3 := HO.out.below hb3
              have hbz3 := Below.step HB.out hb3
              have hsz3 := hbz3.size
              clear hb3
              have hal := HAL.out
              have hal' : acc.length ≤ 1000 := by omega
              clear hal
              go_wp2_with (at_builtin; refine wpList_app1 _ rfl _ _ rfl w.heap.size u6 acc x rfl hown3 rfl w hbz3 hsz3 (by omega) ?_; intro v' w4 hown4 hb4 hsz4)
              go_roundg g
              case measure => omega
              case rel => exact ⟨k + 1, acc ++ [x], by have := HG.out; omega, by go_num, by omega, by simp [HAL.out], hown4, HRR.out, HTX.out, HTY.out, hb4⟩
            · have nxy := neqs hxy
              have HR := Lib.hid (HNN.out ⟨hxp, hyp, hxy⟩)
              clear hxp hyp hxy
              go_wp2
              go_quiet (fail)
              go_wp2
              try rw [Exit.noGoto_ret]
              go_ret2
              exact ret_none HR.out (Below.step (Below.step HB.out HG3.out) (below_draw _ _))
    · have hk1 : k ≤ xs.length := by omega
      have hk2 : k ≤ ys.length := hky
      have hcm : comB (xs.drop k) (ys.drop k) = tailB (xs.drop k) (ys.drop k) := by
        by_cases hx : k < xs.length
        · rw [show ys.drop k = [] from List.drop_eq_nil_of_le (by omega)]; exact com_right _
        · rw [show xs.drop k = [] from List.drop_eq_nil_of_le (by omega)]; exact com_left _
      have HCM := Lib.hid hcm
      have hown := HO.out
      have hbz := HB.out
      clear hcm hkg
      by_cases hx : k < xs.length
      · have hy : ¬ k < ys.length := by omega
        clear hin
        by_cases e1 : c = k
        · omega
        by_cases e2 : c' = k
        all_goals
          go_wp2
          have SX := fun A hA => drop_sl (A := A) (c := c) hsl hk1 hxc hA
          have SY := fun A hA => drop_sl (A := A) (c := c') hsl' hk2 hyc hA
          have SYW : Hid (∀ W, Below w.heap.size w W → ∀ A, (A = some ⟨b', o' + k, none⟩ ∨ c' = k) → SL W W.heap.size A (ys.drop k)) := Lib.hid (fun W hW A hA => drop_sl (A := A) (c := c') (HS'.out.at_ hW) hk2 hyc hA)
          have hzxl : (xs.drop k).length = xs.length - k := List.length_drop
          have hzyl : (ys.drop k).length = ys.length - k := List.length_drop
          have HLZX := Lib.hid (lev_all HFX.out)
          have HLZY := Lib.hid (lev_all HFY.out)
          have hpx := plain_le (xs.drop k)
          have hpy := plain_le (ys.drop k)
          have hal := HAL.out
          generalize xs.drop k = zx at *
          generalize ys.drop k = zy at *
          have HZX := Lib.hid hzxl
          have HZY := Lib.hid hzyl
          have hal' : acc.length ≤ 1000 := by omega
          have hpx' : (plainB zx).length ≤ 1000 := by omega
          have hpy' : (plainB zy).length ≤ 1000 := by omega
          have hzx' : zx.length ≤ 1000 := by omega
          have hzy' : zy.length ≤ 1000 := by omega
          clear hal hpx hpy hsl hsl' hzxl hzyl
          go_quiet (fail)
          obtain ⟨wz, hwz⟩ : ∃ wz, (wr).drewN nq = wz := ⟨_, rfl⟩
          have hbd : Below (wr).heap.size (wr) wz := by rw [← hwz]; exact below_draw _ _
          rw [hwz]
          clear hwz
          have hbz2 := Below.step hbz hbd
          have hown2 := hown.below hbd
          have SX2 := fun A hA => (SX A hA).step hbd
          have SY2 := fun A hA => (SY A hA).step hbd
          clear hbd SX SY hbz hown
          have hzxl := HZX.out
          have hzyl := HZY.out
          have HL1 := Lib.hid hzxl
          have HL2 := Lib.hid hzyl
          have co1 := fun (A : Option Addr) (cc n : Nat) (hA : A = some ⟨b, o + k, none⟩ ∨ c = k) (hn : zx.length = n) => mOpen_n A cc n zx wz _ (SX2 A hA) hn
          have co2 := fun (A : Option Addr) (cc n : Nat) (hA : A = some ⟨b', o' + k, none⟩ ∨ c' = k) (hn : zy.length = n) => mOpen_n A cc n zy wz _ (SY2 A hA) hn
          cases hoa : openB zx
          · rw [hoa] at co1
            cases hob : openB zy
            · rw [hob] at co2
              by_cases hll : zx.length = zy.length
              · have TS : openB zx = true ∨ openB zy = true ∨ zx.length = zy.length := .inr (.inr hll)
                have qn : (((xs.length - k : Nat) : Int) != ((ys.length - k : Nat) : Int)) = false := by rw [← hzxl, ← hzyl, hll]; simp
                clear hll hoa hob
                go_wp2_with fail
                refine (co1 _ _ _ (by first | exact Or.inl rfl | exact Or.inr e1) hzxl).mono ?_
                rintro e w3 ⟨rfl, rfl⟩
                go_wp2_with fail
                refine (co2 _ _ _ (by first | exact Or.inl rfl | exact Or.inr e2) hzyl).mono ?_
                rintro e w3 ⟨rfl, rfl⟩
                clear co1 co2
                go_wp2_with fail
                refine (mPlain_n _ _ _ zx wz (SX2 _ (by first | exact Or.inl rfl | exact Or.inr e1)) HLZX.out (by omega) hzxl).mono ?_
                rintro e w4 ⟨A4, c4, rfl, hc4, hn4, hsl4, hb4⟩
                have hown4 := hown2.below hb4
                have hbz4 := Below.step hbz2 hb4
                have hsz4 := hbz4.size
                have SY4 := fun A hA => (SY2 A hA).step hb4
                have HB4 := Lib.hid hb4
                clear hb4
                go_wp2_with (at_builtin; refine wpList_appMany _ rfl _ _ rfl w.heap.size u6 acc (plainB zx) rfl hown4 A4 c4 rfl hn4 hsl4 w hbz4 hsz4 (by omega) ?_; intro v5 w5 hown5 hb5 hsz5)
                refine (mPlain_n _ _ _ zy w5 (SYW.out w5 hb5 _ (by first | exact Or.inl rfl | exact Or.inr e2)) HLZY.out (by omega) hzyl).mono ?_
                rintro e w6 ⟨A6, c6, rfl, hc6, hn6, hsl6, hb6⟩
                have hown6 := hown5.below hb6
                have hbz6 : Below w.heap.size w w6 := Below.step hb5 hb6
                have hsz6 := hbz6.size
                have HB6 := Lib.hid hb6
                clear hb6
                go_wp2_with (at_builtin; refine wpList_appMany _ rfl _ _ rfl w.heap.size v5 (acc ++ plainB zx) (plainB zy) rfl hown6 A6 c6 rfl hn6 hsl6 w hbz6 hsz6 (by rw [List.length_append]; omega) ?_; intro v7 w7 hown7 hb7 hsz7)
                try rw [Exit.noGoto_ret]
                go_ret2
                exact ret_some (by rw [HC.out, HCM.out, tail_some TS]; simp) hown7 hb7
              · have TN := tail_none hoa hob hll
                have qn : (((xs.length - k : Nat) : Int) != ((ys.length - k : Nat) : Int)) = true := by rw [← hzxl, ← hzyl, bne_iff_ne]; omega
                have HTN := Lib.hid TN
                clear hll hoa hob TN
                go_wp2_with fail
                refine (co1 _ _ _ (by first | exact Or.inl rfl | exact Or.inr e1) hzxl).mono ?_
                rintro e w3 ⟨rfl, rfl⟩
                go_wp2_with fail
                refine (co2 _ _ _ (by first | exact Or.inl rfl | exact Or.inr e2) hzyl).mono ?_
                rintro e w3 ⟨rfl, rfl⟩
                clear co1 co2 hzxl hzyl
                go_wp2_with fail
                try rw [Exit.noGoto_ret]
                go_ret2
                exact ret_none (by rw [HC.out, HCM.out, HTN.out]; rfl) hbz2
            · have TS : openB zx = true ∨ openB zy = true ∨ zx.length = zy.length := .inr (.inl hob)
              rw [hob] at co2
              clear hoa hob
              go_wp2_with fail
              refine (co1 _ _ _ (by first | exact Or.inl rfl | exact Or.inr e1) hzxl).mono ?_
              rintro e w3 ⟨rfl, rfl⟩
              go_wp2_with fail
              refine (co2 _ _ _ (by first | exact Or.inl rfl | exact Or.inr e2) hzyl).mono ?_
              rintro e w3 ⟨rfl, rfl⟩
              clear co1 co2
              go_wp2_with fail
              refine (mPlain_n _ _ _ zx wz (SX2 _ (by first | exact Or.inl rfl | exact Or.inr e1)) HLZX.out (by omega) hzxl).mono ?_
              rintro e w4 ⟨A4, c4, rfl, hc4, hn4, hsl4, hb4⟩
              have hown4 := hown2.below hb4
              have hbz4 := Below.step hbz2 hb4
              have hsz4 := hbz4.size
              have SY4 := fun A hA => (SY2 A hA).step hb4
              have HB4 := Lib.hid hb4
              clear hb4
              go_wp2_with (at_builtin; refine wpList_appMany _ rfl _ _ rfl w.heap.size u6 acc (plainB zx) rfl hown4 A4 c4 rfl hn4 hsl4 w hbz4 hsz4 (by omega) ?_; intro v5 w5 hown5 hb5 hsz5)
              refine (mPlain_n _ _ _ zy w5 (SYW.out w5 hb5 _ (by first | exact Or.inl rfl | exact Or.inr e2)) HLZY.out (by omega) hzyl).mono ?_
              rintro e w6 ⟨A6, c6, rfl, hc6, hn6, hsl6, hb6⟩
              have hown6 := hown5.below hb6
              have hbz6 : Below w.heap.size w w6 := Below.step hb5 hb6
              have hsz6 := hbz6.size
              have HB6 := Lib.hid hb6
              clear hb6
              go_wp2_with (at_builtin; refine wpList_appMany _ rfl _ _ rfl w.heap.size v5 (acc ++ plainB zx) (plainB zy) rfl hown6 A6 c6 rfl hn6 hsl6 w hbz6 hsz6 (by rw [List.length_append]; omega) ?_; intro v7 w7 hown7 hb7 hsz7)
              try rw [Exit.noGoto_ret]
              go_ret2
              exact ret_some (by rw [HC.out, HCM.out, tail_some TS]; simp) hown7 hb7
          · have TS : openB zx = true ∨ openB zy = true ∨ zx.length = zy.length := .inl hoa
            rw [hoa] at co1
            clear hoa
            go_wp2_with fail
            refine (co1 _ _ _ (by first | exact Or.inl rfl | exact Or.inr e1) hzxl).mono ?_
            rintro e w3 ⟨rfl, rfl⟩
            clear co1 co2
            go_wp2_with fail
            refine (mPlain_n _ _ _ zx wz (SX2 _ (by first | exact Or.inl rfl | exact Or.inr e1)) HLZX.out (by omega) hzxl).mono ?_
            rintro e w4 ⟨A4, c4, rfl, hc4, hn4, hsl4, hb4⟩
            have hown4 := hown2.below hb4
            have hbz4 := Below.step hbz2 hb4
            have hsz4 := hbz4.size
            have SY4 := fun A hA => (SY2 A hA).step hb4
            have HB4 := Lib.hid hb4
            clear hb4
            go_wp2_with (at_builtin; refine wpList_appMany _ rfl _ _ rfl w.heap.size u6 acc (plainB zx) rfl hown4 A4 c4 rfl hn4 hsl4 w hbz4 hsz4 (by omega) ?_; intro v5 w5 hown5 hb5 hsz5)
            refine (mPlain_n _ _ _ zy w5 (SYW.out w5 hb5 _ (by first | exact Or.inl rfl | exact Or.inr e2)) HLZY.out (by omega) hzyl).mono ?_
            rintro e w6 ⟨A6, c6, rfl, hc6, hn6, hsl6, hb6⟩
            have hown6 := hown5.below hb6
            have hbz6 : Below w.heap.size w w6 := Below.step hb5 hb6
            have hsz6 := hbz6.size
            have HB6 := Lib.hid hb6
            clear hb6
            go_wp2_with (at_builtin; refine wpList_appMany _ rfl _ _ rfl w.heap.size v5 (acc ++ plainB zx) (plainB zy) rfl hown6 A6 c6 rfl hn6 hsl6 w hbz6 hsz6 (by rw [List.length_append]; omega) ?_; intro v7 w7 hown7 hb7 hsz7)
            try rw [Exit.noGoto_ret]
            go_ret2
            exact ret_some (by rw [HC.out, HCM.out, tail_some TS]; simp) hown7 hb7
      · clear hin
        by_cases e1 : c = k
        · by_cases e2 : c' = k
          all_goals
            go_wp2
            have SX := fun A hA => drop_sl (A := A) (c := c) hsl hk1 hxc hA
            have SY := fun A hA => drop_sl (A := A) (c := c') hsl' hk2 hyc hA
            have SYW : Hid (∀ W, Below w.heap.size w W → ∀ A, (A = some ⟨b', o' + k, none⟩ ∨ c' = k) → SL W W.heap.size A (ys.drop k)) := Lib.hid (fun W hW A hA => drop_sl (A := A) (c := c') (HS'.out.at_ hW) hk2 hyc hA)
            have hzxl : (xs.drop k).length = xs.length - k := List.length_drop
            have hzyl : (ys.drop k).length = ys.length - k := List.length_drop
            have HLZX := Lib.hid (lev_all HFX.out)
            have HLZY := Lib.hid (lev_all HFY.out)
            have hpx := plain_le (xs.drop k)
            have hpy := plain_le (ys.drop k)
            have hal := HAL.out
            generalize xs.drop k = zx at *
            generalize ys.drop k = zy at *
            have HZX := Lib.hid hzxl
            have HZY := Lib.hid hzyl
            have hal' : acc.length ≤ 1000 := by omega
            have hpx' : (plainB zx).length ≤ 1000 := by omega
            have hpy' : (plainB zy).length ≤ 1000 := by omega
            have hzx' : zx.length ≤ 1000 := by omega
            have hzy' : zy.length ≤ 1000 := by omega
            clear hal hpx hpy hsl hsl' hzxl hzyl
            go_quiet (fail)
            obtain ⟨wz, hwz⟩ : ∃ wz, (wr).drewN nq = wz := ⟨_, rfl⟩
            have hbd : Below (wr).heap.size (wr) wz := by rw [← hwz]; exact below_draw _ _
            rw [hwz]
            clear hwz
            have hbz2 := Below.step hbz hbd
            have hown2 := hown.below hbd
            have SX2 := fun A hA => (SX A hA).step hbd
            have SY2 := fun A hA => (SY A hA).step hbd
            clear hbd SX SY hbz hown
            have hzxl := HZX.out
            have hzyl := HZY.out
            have HL1 := Lib.hid hzxl
            have HL2 := Lib.hid hzyl
            have co1 := fun (A : Option Addr) (cc n : Nat) (hA : A = some ⟨b, o + k, none⟩ ∨ c = k) (hn : zx.length = n) => mOpen_n A cc n zx wz _ (SX2 A hA) hn
            have co2 := fun (A : Option Addr) (cc n : Nat) (hA : A = some ⟨b', o' + k, none⟩ ∨ c' = k) (hn : zy.length = n) => mOpen_n A cc n zy wz _ (SY2 A hA) hn
            cases hoa : openB zx
            · rw [hoa] at co1
              cases hob : openB zy
              · rw [hob] at co2
                by_cases hll : zx.length = zy.length
                · have TS : openB zx = true ∨ openB zy = true ∨ zx.length = zy.length := .inr (.inr hll)
                  have qn : (((xs.length - k : Nat) : Int) != ((ys.length - k : Nat) : Int)) = false := by rw [← hzxl, ← hzyl, hll]; simp
                  clear hll hoa hob
                  go_wp2_with fail
                  refine (co1 _ _ _ (by first | exact Or.inl rfl | exact Or.inr e1) hzxl).mono ?_
                  rintro e w3 ⟨rfl, rfl⟩
                  go_wp2_with fail
                  refine (co2 _ _ _ (by first | exact Or.inl rfl | exact Or.inr e2) hzyl).mono ?_
                  rintro e w3 ⟨rfl, rfl⟩
                  clear co1 co2
                  go_wp2_with fail
                  refine (mPlain_n _ _ _ zx wz (SX2 _ (by first | exact Or.inl rfl | exact Or.inr e1)) HLZX.out (by omega) hzxl).mono ?_
                  rintro e w4 ⟨A4, c4, rfl, hc4, hn4, hsl4, hb4⟩
                  have hown4 := hown2.below hb4
                  have hbz4 := Below.step hbz2 hb4
                  have hsz4 := hbz4.size
                  have SY4 := fun A hA => (SY2 A hA).step hb4
                  have HB4 := Lib.hid hb4
                  clear hb4
                  go_wp2_with (at_builtin; refine wpList_appMany _ rfl _ _ rfl w.heap.size u6 acc (plainB zx) rfl hown4 A4 c4 rfl hn4 hsl4 w hbz4 hsz4 (by omega) ?_; intro v5 w5 hown5 hb5 hsz5)
                  refine (mPlain_n _ _ _ zy w5 (SYW.out w5 hb5 _ (by first | exact Or.inl rfl | exact Or.inr e2)) HLZY.out (by omega) hzyl).mono ?_
                  rintro e w6 ⟨A6, c6, rfl, hc6, hn6, hsl6, hb6⟩
                  have hown6 := hown5.below hb6
                  have hbz6 : Below w.heap.size w w6 := Below.step hb5 hb6
                  have hsz6 := hbz6.size
                  have HB6 := Lib.hid hb6
                  clear hb6
                  go_wp2_with (at_builtin; refine wpList_appMany _ rfl _ _ rfl w.heap.size v5 (acc ++ plainB zx) (plainB zy) rfl hown6 A6 c6 rfl hn6 hsl6 w hbz6 hsz6 (by rw [List.length_append]; omega) ?_; intro v7 w7 hown7 hb7 hsz7)
                  try rw [Exit.noGoto_ret]
                  go_ret2
                  exact ret_some (by rw [HC.out, HCM.out, tail_some TS]; simp) hown7 hb7
                · have TN := tail_none hoa hob hll
                  have qn : (((xs.length - k : Nat) : Int) != ((ys.length - k : Nat) : Int)) = true := by rw [← hzxl, ← hzyl, bne_iff_ne]; omega
                  have HTN := Lib.hid TN
                  clear hll hoa hob TN
                  go_wp2_with fail
                  refine (co1 _ _ _ (by first | exact Or.inl rfl | exact Or.inr e1) hzxl).mono ?_
                  rintro e w3 ⟨rfl, rfl⟩
                  go_wp2_with fail
                  refine (co2 _ _ _ (by first | exact Or.inl rfl | exact Or.inr e2) hzyl).mono ?_
                  rintro e w3 ⟨rfl, rfl⟩
                  clear co1 co2 hzxl hzyl
                  go_wp2_with fail
                  try rw [Exit.noGoto_ret]
                  go_ret2
                  exact ret_none (by rw [HC.out, HCM.out, HTN.out]; rfl) hbz2
              · have TS : openB zx = true ∨ openB zy = true ∨ zx.length = zy.length := .inr (.inl hob)
                rw [hob] at co2
                clear hoa hob
                go_wp2_with fail
                refine (co1 _ _ _ (by first | exact Or.inl rfl | exact Or.inr e1) hzxl).mono ?_
                rintro e w3 ⟨rfl, rfl⟩
                go_wp2_with fail
                refine (co2 _ _ _ (by first | exact Or.inl rfl | exact Or.inr e2) hzyl).mono ?_
                rintro e w3 ⟨rfl, rfl⟩
                clear co1 co2
                go_wp2_with fail
                refine (mPlain_n _ _ _ zx wz (SX2 _ (by first | exact Or.inl rfl | exact Or.inr e1)) HLZX.out (by omega) hzxl).mono ?_
                rintro e w4 ⟨A4, c4, rfl, hc4, hn4, hsl4, hb4⟩
                have hown4 := hown2.below hb4
                have hbz4 := Below.step hbz2 hb4
                have hsz4 := hbz4.size
                have SY4 := fun A hA => (SY2 A hA).step hb4
                have HB4 := Lib.hid hb4
                clear hb4
                go_wp2_with (at_builtin; refine wpList_appMany _ rfl _ _ rfl w.heap.size u6 acc (plainB zx) rfl hown4 A4 c4 rfl hn4 hsl4 w hbz4 hsz4 (by omega) ?_; intro v5 w5 hown5 hb5 hsz5)
                refine (mPlain_n _ _ _ zy w5 (SYW.out w5 hb5 _ (by first | exact Or.inl rfl | exact Or.inr e2)) HLZY.out (by omega) hzyl).mono ?_
                rintro e w6 ⟨A6, c6, rfl, hc6, hn6, hsl6, hb6⟩
                have hown6 := hown5.below hb6
                have hbz6 : Below w.heap.size w w6 := Below.step hb5 hb6
                have hsz6 := hbz6.size
                have HB6 := Lib.hid hb6
                clear hb6
                go_wp2_with (at_builtin; refine wpList_appMany _ rfl _ _ rfl w.heap.size v5 (acc ++ plainB zx) (plainB zy) rfl hown6 A6 c6 rfl hn6 hsl6 w hbz6 hsz6 (by rw [List.length_append]; omega) ?_; intro v7 w7 hown7 hb7 hsz7)
                try rw [Exit.noGoto_ret]
                go_ret2
                exact ret_some (by rw [HC.out, HCM.out, tail_some TS]; simp) hown7 hb7
            · have TS : openB zx = true ∨ openB zy = true ∨ zx.length = zy.length := .inl hoa
              rw [hoa] at co1
              clear hoa
              go_wp2_with fail
              refine (co1 _ _ _ (by first | exact Or.inl rfl | exact Or.inr e1) hzxl).mono ?_
              rintro e w3 ⟨rfl, rfl⟩
              clear co1 co2
              go_wp2_with fail
              refine (mPlain_n _ _ _ zx wz (SX2 _ (by first | exact Or.inl rfl | exact Or.inr e1)) HLZX.out (by omega) hzxl).mono ?_
              rintro e w4 ⟨A4, c4, rfl, hc4, hn4, hsl4, hb4⟩
              have hown4 := hown2.below hb4
              have hbz4 := Below.step hbz2 hb4
              have hsz4 := hbz4.size
              have SY4 := fun A hA => (SY2 A hA).step hb4
              have HB4 := Lib.hid hb4
              clear hb4
              go_wp2_with (at_builtin; refine wpList_appMany _ rfl _ _ rfl w.heap.size u6 acc (plainB zx) rfl hown4 A4 c4 rfl hn4 hsl4 w hbz4 hsz4 (by omega) ?_; intro v5 w5 hown5 hb5 hsz5)
              refine (mPlain_n _ _ _ zy w5 (SYW.out w5 hb5 _ (by first | exact Or.inl rfl | exact Or.inr e2)) HLZY.out (by omega) hzyl).mono ?_
              rintro e w6 ⟨A6, c6, rfl, hc6, hn6, hsl6, hb6⟩
              have hown6 := hown5.below hb6
              have hbz6 : Below w.heap.size w w6 := Below.step hb5 hb6
              have hsz6 := hbz6.size
              have HB6 := Lib.hid hb6
              clear hb6
              go_wp2_with (at_builtin; refine wpList_appMany _ rfl _ _ rfl w.heap.size v5 (acc ++ plainB zx) (plainB zy) rfl hown6 A6 c6 rfl hn6 hsl6 w hbz6 hsz6 (by rw [List.length_append]; omega) ?_; intro v7 w7 hown7 hb7 hsz7)
              try rw [Exit.noGoto_ret]
              go_ret2
              exact ret_some (by rw [HC.out, HCM.out, tail_some TS]; simp) hown7 hb7
        · by_cases e2 : c' = k
          all_goals
            go_wp2
            have SX := fun A hA => drop_sl (A := A) (c := c) hsl hk1 hxc hA
            have SY := fun A hA => drop_sl (A := A) (c := c') hsl' hk2 hyc hA
            have SYW : Hid (∀ W, Below w.heap.size w W → ∀ A, (A = some ⟨b', o' + k, none⟩ ∨ c' = k) → SL W W.heap.size A (ys.drop k)) := Lib.hid (fun W hW A hA => drop_sl (A := A) (c := c') (HS'.out.at_ hW) hk2 hyc hA)
            have hzxl : (xs.drop k).length = xs.length - k := List.length_drop
            have hzyl : (ys.drop k).length = ys.length - k := List.length_drop
            have HLZX := Lib.hid (lev_all HFX.out)
            have HLZY := Lib.hid (lev_all HFY.out)
            have hpx := plain_le (xs.drop k)
            have hpy := plain_le (ys.drop k)
            have hal := HAL.out
            generalize xs.drop k = zx at *
            generalize ys.drop k = zy at *
            have HZX := Lib.hid hzxl
            have HZY := Lib.hid hzyl
            have hal' : acc.length ≤ 1000 := by omega
            have hpx' : (plainB zx).length ≤ 1000 := by omega
            have hpy' : (plainB zy).length ≤ 1000 := by omega
            have hzx' : zx.length ≤ 1000 := by omega
            have hzy' : zy.length ≤ 1000 := by omega
            clear hal hpx hpy hsl hsl' hzxl hzyl
            go_quiet (fail)
            obtain ⟨wz, hwz⟩ : ∃ wz, (wr).drewN nq = wz := ⟨_, rfl⟩
            have hbd : Below (wr).heap.size (wr) wz := by rw [← hwz]; exact below_draw _ _
            rw [hwz]
            clear hwz
            have hbz2 := Below.step hbz hbd
            have hown2 := hown.below hbd
            have SX2 := fun A hA => (SX A hA).step hbd
            have SY2 := fun A hA => (SY A hA).step hbd
            clear hbd SX SY hbz hown
            have hzxl := HZX.out
            have hzyl := HZY.out
            have HL1 := Lib.hid hzxl
            have HL2 := Lib.hid hzyl
            have co1 := fun (A : Option Addr) (cc n : Nat) (hA : A = some ⟨b, o + k, none⟩ ∨ c = k) (hn : zx.length = n) => mOpen_n A cc n zx wz _ (SX2 A hA) hn
            have co2 := fun (A : Option Addr) (cc n : Nat) (hA : A = some ⟨b', o' + k, none⟩ ∨ c' = k) (hn : zy.length = n) => mOpen_n A cc n zy wz _ (SY2 A hA) hn
            cases hoa : openB zx
            · rw [hoa] at co1
              cases hob : openB zy
              · rw [hob] at co2
                by_cases hll : zx.length = zy.length
                · have TS : openB zx = true ∨ openB zy = true ∨ zx.length = zy.length := .inr (.inr hll)
                  have qn : (((xs.length - k : Nat) : Int) != ((ys.length - k : Nat) : Int)) = false := by rw [← hzxl, ← hzyl, hll]; simp
                  clear hll hoa hob
                  go_wp2_with fail
                  refine (co1 _ _ _ (by first | exact Or.inl rfl | exact Or.inr e1) hzxl).mono ?_
                  rintro e w3 ⟨rfl, rfl⟩
                  go_wp2_with fail
                  refine (co2 _ _ _ (by first | exact Or.inl rfl | exact Or.inr e2) hzyl).mono ?_
                  rintro e w3 ⟨rfl, rfl⟩
                  clear co1 co2
                  go_wp2_with fail
                  refine (mPlain_n _ _ _ zx wz (SX2 _ (by first | exact Or.inl rfl | exact Or.inr e1)) HLZX.out (by omega) hzxl).mono ?_
                  rintro e w4 ⟨A4, c4, rfl, hc4, hn4, hsl4, hb4⟩
                  have hown4 := hown2.below hb4
                  have hbz4 := Below.step hbz2 hb4
                  have hsz4 := hbz4.size
                  have SY4 := fun A hA => (SY2 A hA).step hb4
                  have HB4 := Lib.hid hb4
                  clear hb4
                  go_wp2_with (at_builtin; refine wpList_appMany _ rfl _ _ rfl w.heap.size u6 acc (plainB zx) rfl hown4 A4 c4 rfl hn4 hsl4 w hbz4 hsz4 (by omega) ?_; intro v5 w5 hown5 hb5 hsz5)
                  refine (mPlain_n _ _ _ zy w5 (SYW.out w5 hb5 _ (by first | exact Or.inl rfl | exact Or.inr e2)) HLZY.out (by omega) hzyl).mono ?_
                  rintro e w6 ⟨A6, c6, rfl, hc6, hn6, hsl6, hb6⟩
                  have hown6 := hown5.below hb6
                  have hbz6 : Below w.heap.size w w6 := Below.step hb5 hb6
                  have hsz6 := hbz6.size
                  have HB6 := Lib.hid hb6
                  clear hb6
                  go_wp2_with (at_builtin; refine wpList_appMany _ rfl _ _ rfl w.heap.size v5 (acc ++ plainB zx) (plainB zy) rfl hown6 A6 c6 rfl hn6 hsl6 w hbz6 hsz6 (by rw [List.length_append]; omega) ?_; intro v7 w7 hown7 hb7 hsz7)
                  try rw [Exit.noGoto_ret]
                  go_ret2
                  exact ret_some (by rw [HC.out, HCM.out, tail_some TS]; simp) hown7 hb7
                · have TN := tail_none hoa hob hll
                  have qn : (((xs.length - k : Nat) : Int) != ((ys.length - k : Nat) : Int)) = true := by rw [← hzxl, ← hzyl, bne_iff_ne]; omega
                  have HTN := Lib.hid TN
                  clear hll hoa hob TN
                  go_wp2_with fail
                  refine (co1 _ _ _ (by first | exact Or.inl rfl | exact Or.inr e1) hzxl).mono ?_
                  rintro e w3 ⟨rfl, rfl⟩
                  go_wp2_with fail
                  refine (co2 _ _ _ (by first | exact Or.inl rfl | exact Or.inr e2) hzyl).mono ?_
                  rintro e w3 ⟨rfl, rfl⟩
                  clear co1 co2 hzxl hzyl
                  go_wp2_with fail
                  try rw [Exit.noGoto_ret]
                  go_ret2
                  exact ret_none (by rw [HC.out, HCM.out, HTN.out]; rfl) hbz2
              · have TS : openB zx = true ∨ openB zy = true ∨ zx.length = zy.length := .inr (.inl hob)
                rw [hob] at co2
                clear hoa hob
                go_wp2_with fail
                refine (co1 _ _ _ (by first | exact Or.inl rfl | exact Or.inr e1) hzxl).mono ?_
                rintro e w3 ⟨rfl, rfl⟩
                go_wp2_with fail
                refine (co2 _ _ _ (by first | exact Or.inl rfl | exact Or.inr e2) hzyl).mono ?_
                rintro e w3 ⟨rfl, rfl⟩
                clear co1 co2
                go_wp2_with fail
                refine (mPlain_n _ _ _ zx wz (SX2 _ (by first | exact Or.inl rfl | exact Or.inr e1)) HLZX.out (by omega) hzxl).mono ?_
                rintro e w4 ⟨A4, c4, rfl, hc4, hn4, hsl4, hb4⟩
                have hown4 := hown2.below hb4
                have hbz4 := Below.step hbz2 hb4
                have hsz4 := hbz4.size
                have SY4 := fun A hA => (SY2 A hA).step hb4
                have HB4 := Lib.hid hb4
                clear hb4
                go_wp2_with (at_builtin; refine wpList_appMany _ rfl _ _ rfl w.heap.size u6 acc (plainB zx) rfl hown4 A4 c4 rfl hn4 hsl4 w hbz4 hsz4 (by omega) ?_; intro v5 w5 hown5 hb5 hsz5)
                refine (mPlain_n _ _ _ zy w5 (SYW.out w5 hb5 _ (by first | exact Or.inl rfl | exact Or.inr e2)) HLZY.out (by omega) hzyl).mono ?_
                rintro e w6 ⟨A6, c6, rfl, hc6, hn6, hsl6, hb6⟩
                have hown6 := hown5.below hb6
                have hbz6 : Below w.heap.size w w6 := Below.step hb5 hb6
                have hsz6 := hbz6.size
                have HB6 := Lib.hid hb6
                clear hb6
                go_wp2_with (at_builtin; refine wpList_appMany _ rfl _ _ rfl w.heap.size v5 (acc ++ plainB zx) (plainB zy) rfl hown6 A6 c6 rfl hn6 hsl6 w hbz6 hsz6 (by rw [List.length_append]; omega) ?_; intro v7 w7 hown7 hb7 hsz7)
                try rw [Exit.noGoto_ret]
                go_ret2
                exact ret_some (by rw [HC.out, HCM.out, tail_some TS]; simp) hown7 hb7
            · have TS : openB zx = true ∨ openB zy = true ∨ zx.length = zy.length := .inl hoa
              rw [hoa] at co1
              clear hoa
              go_wp2_with fail
              refine (co1 _ _ _ (by first | exact Or.inl rfl | exact Or.inr e1) hzxl).mono ?_
              rintro e w3 ⟨rfl, rfl⟩
              clear co1 co2
              go_wp2_with fail
              refine (mPlain_n _ _ _ zx wz (SX2 _ (by first | exact Or.inl rfl | exact Or.inr e1)) HLZX.out (by omega) hzxl).mono ?_
              rintro e w4 ⟨A4, c4, rfl, hc4, hn4, hsl4, hb4⟩
              have hown4 := hown2.below hb4
              have hbz4 := Below.step hbz2 hb4
              have hsz4 := hbz4.size
              have SY4 := fun A hA => (SY2 A hA).step hb4
              have HB4 := Lib.hid hb4
              clear hb4
              go_wp2_with (at_builtin; refine wpList_appMany _ rfl _ _ rfl w.heap.size u6 acc (plainB zx) rfl hown4 A4 c4 rfl hn4 hsl4 w hbz4 hsz4 (by omega) ?_; intro v5 w5 hown5 hb5 hsz5)
              refine (mPlain_n _ _ _ zy w5 (SYW.out w5 hb5 _ (by first | exact Or.inl rfl | exact Or.inr e2)) HLZY.out (by omega) hzyl).mono ?_
              rintro e w6 ⟨A6, c6, rfl, hc6, hn6, hsl6, hb6⟩
              have hown6 := hown5.below hb6
              have hbz6 : Below w.heap.size w w6 := Below.step hb5 hb6
              have hsz6 := hbz6.size
              have HB6 := Lib.hid hb6
              clear hb6
              go_wp2_with (at_builtin; refine wpList_appMany _ rfl _ _ rfl w.heap.size v5 (acc ++ plainB zx) (plainB zy) rfl hown6 A6 c6 rfl hn6 hsl6 w hbz6 hsz6 (by rw [List.length_append]; omega) ?_; intro v7 w7 hown7 hb7 hsz7)
              try rw [Exit.noGoto_ret]
              go_ret2
              exact ret_some (by rw [HC.out, HCM.out, tail_some TS]; simp) hown7 hb7

end Go.Proofs.YtoakhkiiefiebaaDoor.S1
