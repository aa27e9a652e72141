/-
  What taken of exchange answers for the kinds direct and fanout: the queues of the bindings that take a message, in memory of their own. Conditions: the list reads as data; few elements.
-/
import Derived.Test.YtjkhfifnfgchgabGreatDoorEpR
namespace Go.Proofs.YtjkhfifnfgchgabGreatDoor
open Go.RowKit
open S2 (BK Put get_ops)

theorem kdN_1 : kdN 1 = .iface 107 (.agg #[]) := rfl
theorem kdN_2 : kdN 2 = .iface 108 (.agg #[]) := rfl
theorem strInfo9 : (Tryz.prog.info? 9).map (fun i => (i.zero, i.size, i.bytes)) = some (some (.string ByteArray.empty), 1, 16) := by kernel_rfl
theorem takenR_next {xs : List BE} {x : Ex} {key : ByteArray} {ps : List PR} {k : Nat} {y : BE} (hy : xs[k]? = some y) : takenR ((xs.take (k + 1)).map BE.d) x key ps = if tkB x key ps y.d = true then takenR ((xs.take k).map BE.d) x key ps ++ [y.d.qu] else takenR ((xs.take k).map BE.d) x key ps := by
  unfold takenR
  rw [List.take_add_one, hy]
  simp only [Option.toList_some, List.map_append, List.map_cons, List.map_nil, List.filter_append, List.filter_cons, List.filter_nil]
  split <;> simp
theorem takenR_le (bs : List Bd) (x : Ex) (key : ByteArray) (ps : List PR) : (takenR bs x key ps).length ≤ bs.length := by
  unfold takenR
  rw [List.length_map]
  exact List.length_filter_le _ _

set_option maxRecDepth 20000 in
set_option maxHeartbeats 8000000 in
theorem taken_1 (A2 : Option Addr) (c2 : Nat) (xs : List BE) (x : Ex) (key : ByteArray) (ps : List PR) (Ap : Option Addr) (np cp : Nat) (w : World) (h : BI w w.heap.size A2 xs) (hk : x.kd = 1) (hn : xs.length ≤ 100000) :
    Calls Tryz.prog 74 #[.slice A2 xs.length c2, exV x, enV key Ap np cp] w fun e w' => ∃ v, e = .returned v ∧ OwnT w' w.heap.size v (takenR (xs.map BE.d) x key ps) ∧ Below w.heap.size w w' := by
  have HK : Hid (∀ w1, Calls Tryz.prog 62 #[.int .i64 1] w1 fun e w' => e = .returned (.tuple #[.iface 107 (.agg #[]), .bool true]) ∧ w' = w1) := Lib.hid (fun w1 => kindOf_any 1 w1)
  have HT := Lib.hid (fun y w1 => direct_any y key Ap np cp w1)
  have HTK : Hid (∀ y : BE, tkB x key ps y.d = (decide (y.d.ex = x.nm) && decide (y.d.ky = key))) := Lib.hid (fun y => by unfold tkB takesR; rw [hk]; rfl)
  have HX := Lib.hid h
  have HNX := Lib.hid hn
  have HNE : Hid (∀ k y, xs[k]? = some y → takenR ((xs.take (k + 1)).map BE.d) x key ps = if tkB x key ps y.d = true then takenR ((xs.take k).map BE.d) x key ps ++ [y.d.qu] else takenR ((xs.take k).map BE.d) x key ps) := Lib.hid (fun k y hy => takenR_next hy)
  have HLE : Hid (∀ k, (takenR ((xs.take k).map BE.d) x key ps).length ≤ 100000) := Lib.hid (fun k => by have := takenR_le ((xs.take k).map BE.d) x key ps; rw [List.length_map, List.length_take] at this; omega)
  have HT0 : Hid (takenR ((xs.take 0).map BE.d) x key ps = []) := Lib.hid rfl
  have HTE : Hid (takenR ((xs.take xs.length).map BE.d) x key ps = takenR (xs.map BE.d) x key ps) := Lib.hid (by rw [List.take_length])
  obtain ⟨TR, hTR⟩ : ∃ F : Nat → List ByteArray, F = fun k => takenR ((xs.take k).map BE.d) x key ps := ⟨_, rfl⟩
  have HTR : ∀ k, takenR ((xs.take k).map BE.d) x key ps = TR k := fun k => by rw [hTR]
  simp only [HTR] at HNE HLE HT0 HTE
  rw [← HTE.out]
  have HV : Hid (exV x = .agg #[.string x.nm, .int .i64 1, .string x.alt]) := Lib.hid (by rw [← hk]; rfl)
  rw [HV.out]
  unfold enV
  clear h hn hTR HTR HTE HV
  generalize x.nm = nm at *
  generalize x.alt = alt at *
  go_enter Tryz.func74, Tryz.ntmps74
  go_upto_region 1 with fail
  refine name_world (C := fun w1 => Code.wp _ _ _ _ w1) ((w.alloc (.cells [.string nm, .int .i64 1, .string alt].toArray 32)).alloc (.cells [.string key, .slice Ap np cp].toArray 79)) ?_
  intro w1 hw1
  obtain ⟨u1, u2, hs0, hB0⟩ := S2.two_laid hw1
  have X_w1 := Lib.hid u1
  have E_w1 := Lib.hid u2
  have B_w1 := Lib.hid hB0
  have HZ1 := Lib.hid hs0
  clear hw1 u1 u2 hs0 hB0
  have x1 := X_w1.out.cell 1 rfl
  go_wp2_with fail
  refine (HK.out _).mono ?_
  rintro e w2 ⟨rfl, hw⟩
  have hw := hw.symm
  subst hw
  clear x1 HK
  go_wp2_with fail
  go_loopg [7, 20] xs.length (fun g v7 v wr => ∃ (k : Nat), k + g = xs.length ∧ v = .int .i64 k ∧ OwnT wr w1.heap.size v7 (TR k) ∧ Below w1.heap.size w1 wr)
  case atStart => exact ⟨0, by omega, rfl, by rw [HT0.out]; exact OwnG.nil _ _, Below.refl _ _⟩
  case round =>
    obtain ⟨k, hkg, rfl, ho, hb0⟩ := hrel
    have O_wr := Lib.hid ho
    have B_wr := Lib.hid hb0
    have HG := Lib.hid hkg
    clear ho hb0
    cases gk with
    | zero =>
      obtain rfl : k = xs.length := by omega
      clear hkg
      go_wp2_with fail
      go_ret
      exact ⟨_, rfl, OwnG.weak O_wr.out B_w1.out.size, (stepB B_w1.out B_wr.out)⟩
    | succ n =>
      have hlt : k < xs.length := by omega
      have e3 : decide ((k : Int) < (xs.length : Int)) = true := decide_eq_true (by omega)
      obtain ⟨y, hy⟩ : ∃ y, xs[k]? = some y := ⟨_, List.getElem?_eq_getElem hlt⟩
      have hsr := HX.out.step (stepB B_w1.out B_wr.out)
      obtain ⟨b, o, hA, hbB, hcl, hpl⟩ := hsr.at_ hy
      have HLD := Lib.hid (load_bd hcl)
      have HNK := Lib.hid (HNE.out k y hy)
      have HTY := Lib.hid (HTK.out y)
      have HCT := Lib.hid (fun w1 => HT.out y w1)
      have HQL := Lib.hid (HLE.out k)
      subst hA
      have j1 : (0 : Int) ≤ (k : Int) := by omega
      have j2 : (k : Int) < (xs.length : Int) := by omega
      clear hy hkg hlt hbB hcl hpl hsr
      go_upto_region 6 with first
        | (refine wpList_load_v (by rfl) 35 (.tmp 22) rfl ⟨b, o + k * 5, none⟩ (by go_simp) _ HLD.out ?_)
        | (refine S2.wpList_store_all (by rfl) 35 (.tmp 11) (.tmp 23) rfl rfl wr.heap.size rfl (gB y) rfl 35 _ (BK.new wr _ _) bdSize rfl (gB_one _) ?_; intro w4 hM hP; have hb := hP.below (S2.below_new wr _) (Nat.le_refl _); have B_w4 := Lib.hid (stepB B_wr.out hb); have V_w4 := Lib.hid hM; have O_w4 := Lib.hid (OwnG.step O_wr.out hb); clear hM hP hb)
      clear HLD B_wr O_wr
      have X_w4 := Lib.hid (X_w1.out.step B_w4.out)
      have E_w4 := Lib.hid (E_w1.out.step B_w4.out)
      have HLV := Lib.hid (load_bd0 V_w4.out)
      have HLE4 := Lib.hid (S2.run_load_all E_w4.out Tryz.underlying79 rfl enSize)
      have x0 := X_w4.out.cell 0 rfl
      have v0 := V_w4.out.cell 0 rfl
      have q1 : (y.d.ex.toList == nm.toList) = decide (y.d.ex = nm) := str_dec _ _
      generalize decide (y.d.ex = nm) = b1 at *
      generalize decide (y.d.ky = key) = b2 at *
      cases b1 with
      | false =>
        have HT9 : Hid (tkB x key ps y.d = false) := Lib.hid (by rw [HTY.out]; rfl)
        go_wp2_with fail
        go_roundg n
        case measure => omega
        case rel => exact ⟨k + 1, by have := HG.out; omega, nxt k (by have := HNX.out; have := HG.out; omega), by rw [HNK.out, if_neg (by rw [HT9.out]; decide)]; exact O_w4.out, B_w4.out⟩
      | true =>
        go_wp2_with first
          | (refine wpList_load_v (by rfl) 35 (.tmp 11) rfl ⟨wr.heap.size, 0, none⟩ (by go_simp) _ HLV.out ?_)
          | (refine wpList_load_v (by rfl) 79 (.tmp 5) rfl ⟨w.heap.size + 1, 0, none⟩ (by go_simp) _ HLE4.out ?_)
        refine (HCT.out _).mono ?_
        rintro e w5 ⟨rfl, hb⟩
        have B_w5 := Lib.hid (stepB B_w4.out hb)
        have V_w5 := Lib.hid (V_w4.out.step hb)
        have O_w5 := Lib.hid (OwnG.step O_w4.out hb)
        clear hb V_w4 O_w4 B_w4 x0 v0 HLV HLE4 X_w4 E_w4
        cases b2 with
        | false =>
          have HT9 : Hid (tkB x key ps y.d = false) := Lib.hid (by rw [HTY.out]; rfl)
          go_wp2_with fail
          go_roundg n
          case measure => omega
          case rel => exact ⟨k + 1, by have := HG.out; omega, nxt k (by have := HNX.out; have := HG.out; omega), by rw [HNK.out, if_neg (by rw [HT9.out]; decide)]; exact O_w5.out, B_w5.out⟩
        | true =>
          have HT9 : Hid (tkB x key ps y.d = true) := Lib.hid (by rw [HTY.out]; rfl)
          have v1 := V_w5.out.cell 1 rfl
          go_wp2_with (at_builtin; refine wpList_app1 gT_len gT_one (by decide) w5 rfl _ _ 45 rfl (.string ByteArray.empty) 16 Tryz.underlying45 strInfo9 rfl (by decide) w1.heap.size _ (TR k) y.d.qu (by rfl) O_w5.out (by rfl) w1 B_w5.out B_w5.out.size (by have := HQL.out; omega) ?_; intro v9 w9 hown9 hb9 hs9; have O_w9 := Lib.hid hown9; have B_w9 := Lib.hid hb9; clear hown9 hb9 hs9 v1)
          go_roundg n
          case measure => omega
          case rel => exact ⟨k + 1, by have := HG.out; omega, nxt k (by have := HNX.out; have := HG.out; omega), by rw [HNK.out, if_pos HT9.out]; exact O_w9.out, B_w9.out⟩


set_option maxRecDepth 20000 in
set_option maxHeartbeats 8000000 in
theorem taken_2 (A2 : Option Addr) (c2 : Nat) (xs : List BE) (x : Ex) (key : ByteArray) (ps : List PR) (Ap : Option Addr) (np cp : Nat) (w : World) (h : BI w w.heap.size A2 xs) (hk : x.kd = 2) (hn : xs.length ≤ 100000) :
    Calls Tryz.prog 74 #[.slice A2 xs.length c2, exV x, enV key Ap np cp] w fun e w' => ∃ v, e = .returned v ∧ OwnT w' w.heap.size v (takenR (xs.map BE.d) x key ps) ∧ Below w.heap.size w w' := by
  have HK : Hid (∀ w1, Calls Tryz.prog 62 #[.int .i64 2] w1 fun e w' => e = .returned (.tuple #[.iface 108 (.agg #[]), .bool true]) ∧ w' = w1) := Lib.hid (fun w1 => kindOf_any 2 w1)
  have HT := Lib.hid (fun y w1 => fanout_any y key Ap np cp w1)
  have HTK : Hid (∀ y : BE, tkB x key ps y.d = (decide (y.d.ex = x.nm) && true)) := Lib.hid (fun y => by unfold tkB takesR; rw [hk]; rfl)
  have HX := Lib.hid h
  have HNX := Lib.hid hn
  have HNE : Hid (∀ k y, xs[k]? = some y → takenR ((xs.take (k + 1)).map BE.d) x key ps = if tkB x key ps y.d = true then takenR ((xs.take k).map BE.d) x key ps ++ [y.d.qu] else takenR ((xs.take k).map BE.d) x key ps) := Lib.hid (fun k y hy => takenR_next hy)
  have HLE : Hid (∀ k, (takenR ((xs.take k).map BE.d) x key ps).length ≤ 100000) := Lib.hid (fun k => by have := takenR_le ((xs.take k).map BE.d) x key ps; rw [List.length_map, List.length_take] at this; omega)
  have HT0 : Hid (takenR ((xs.take 0).map BE.d) x key ps = []) := Lib.hid rfl
  have HTE : Hid (takenR ((xs.take xs.length).map BE.d) x key ps = takenR (xs.map BE.d) x key ps) := Lib.hid (by rw [List.take_length])
  obtain ⟨TR, hTR⟩ : ∃ F : Nat → List ByteArray, F = fun k => takenR ((xs.take k).map BE.d) x key ps := ⟨_, rfl⟩
  have HTR : ∀ k, takenR ((xs.take k).map BE.d) x key ps = TR k := fun k => by rw [hTR]
  simp only [HTR] at HNE HLE HT0 HTE
  rw [← HTE.out]
  have HV : Hid (exV x = .agg #[.string x.nm, .int .i64 2, .string x.alt]) := Lib.hid (by rw [← hk]; rfl)
  rw [HV.out]
  unfold enV
  clear h hn hTR HTR HTE HV
  generalize x.nm = nm at *
  generalize x.alt = alt at *
  go_enter Tryz.func74, Tryz.ntmps74
  go_upto_region 1 with fail
  refine name_world (C := fun w1 => Code.wp _ _ _ _ w1) ((w.alloc (.cells [.string nm, .int .i64 2, .string alt].toArray 32)).alloc (.cells [.string key, .slice Ap np cp].toArray 79)) ?_
  intro w1 hw1
  obtain ⟨u1, u2, hs0, hB0⟩ := S2.two_laid hw1
  have X_w1 := Lib.hid u1
  have E_w1 := Lib.hid u2
  have B_w1 := Lib.hid hB0
  have HZ1 := Lib.hid hs0
  clear hw1 u1 u2 hs0 hB0
  have x1 := X_w1.out.cell 1 rfl
  go_wp2_with fail
  refine (HK.out _).mono ?_
  rintro e w2 ⟨rfl, hw⟩
  have hw := hw.symm
  subst hw
  clear x1 HK
  go_wp2_with fail
  go_loopg [7, 20] xs.length (fun g v7 v wr => ∃ (k : Nat), k + g = xs.length ∧ v = .int .i64 k ∧ OwnT wr w1.heap.size v7 (TR k) ∧ Below w1.heap.size w1 wr)
  case atStart => exact ⟨0, by omega, rfl, by rw [HT0.out]; exact OwnG.nil _ _, Below.refl _ _⟩
  case round =>
    obtain ⟨k, hkg, rfl, ho, hb0⟩ := hrel
    have O_wr := Lib.hid ho
    have B_wr := Lib.hid hb0
    have HG := Lib.hid hkg
    clear ho hb0
    cases gk with
    | zero =>
      obtain rfl : k = xs.length := by omega
      clear hkg
      go_wp2_with fail
      go_ret
      exact ⟨_, rfl, OwnG.weak O_wr.out B_w1.out.size, (stepB B_w1.out B_wr.out)⟩
    | succ n =>
      have hlt : k < xs.length := by omega
      have e3 : decide ((k : Int) < (xs.length : Int)) = true := decide_eq_true (by omega)
      obtain ⟨y, hy⟩ : ∃ y, xs[k]? = some y := ⟨_, List.getElem?_eq_getElem hlt⟩
      have hsr := HX.out.step (stepB B_w1.out B_wr.out)
      obtain ⟨b, o, hA, hbB, hcl, hpl⟩ := hsr.at_ hy
      have HLD := Lib.hid (load_bd hcl)
      have HNK := Lib.hid (HNE.out k y hy)
      have HTY := Lib.hid (HTK.out y)
      have HCT := Lib.hid (fun w1 => HT.out y w1)
      have HQL := Lib.hid (HLE.out k)
      subst hA
      have j1 : (0 : Int) ≤ (k : Int) := by omega
      have j2 : (k : Int) < (xs.length : Int) := by omega
      clear hy hkg hlt hbB hcl hpl hsr
      go_upto_region 6 with first
        | (refine wpList_load_v (by rfl) 35 (.tmp 22) rfl ⟨b, o + k * 5, none⟩ (by go_simp) _ HLD.out ?_)
        | (refine S2.wpList_store_all (by rfl) 35 (.tmp 11) (.tmp 23) rfl rfl wr.heap.size rfl (gB y) rfl 35 _ (BK.new wr _ _) bdSize rfl (gB_one _) ?_; intro w4 hM hP; have hb := hP.below (S2.below_new wr _) (Nat.le_refl _); have B_w4 := Lib.hid (stepB B_wr.out hb); have V_w4 := Lib.hid hM; have O_w4 := Lib.hid (OwnG.step O_wr.out hb); clear hM hP hb)
      clear HLD B_wr O_wr
      have X_w4 := Lib.hid (X_w1.out.step B_w4.out)
      have E_w4 := Lib.hid (E_w1.out.step B_w4.out)
      have HLV := Lib.hid (load_bd0 V_w4.out)
      have HLE4 := Lib.hid (S2.run_load_all E_w4.out Tryz.underlying79 rfl enSize)
      have x0 := X_w4.out.cell 0 rfl
      have v0 := V_w4.out.cell 0 rfl
      have q1 : (y.d.ex.toList == nm.toList) = decide (y.d.ex = nm) := str_dec _ _
      generalize decide (y.d.ex = nm) = b1 at *
      cases b1 with
      | false =>
        have HT9 : Hid (tkB x key ps y.d = false) := Lib.hid (by rw [HTY.out]; rfl)
        go_wp2_with fail
        go_roundg n
        case measure => omega
        case rel => exact ⟨k + 1, by have := HG.out; omega, nxt k (by have := HNX.out; have := HG.out; omega), by rw [HNK.out, if_neg (by rw [HT9.out]; decide)]; exact O_w4.out, B_w4.out⟩
      | true =>
        go_wp2_with first
          | (refine wpList_load_v (by rfl) 35 (.tmp 11) rfl ⟨wr.heap.size, 0, none⟩ (by go_simp) _ HLV.out ?_)
          | (refine wpList_load_v (by rfl) 79 (.tmp 5) rfl ⟨w.heap.size + 1, 0, none⟩ (by go_simp) _ HLE4.out ?_)
        refine (HCT.out _).mono ?_
        rintro e w5 ⟨rfl, hb⟩
        have B_w5 := Lib.hid (stepB B_w4.out hb)
        have V_w5 := Lib.hid (V_w4.out.step hb)
        have O_w5 := Lib.hid (OwnG.step O_w4.out hb)
        clear hb V_w4 O_w4 B_w4 x0 v0 HLV HLE4 X_w4 E_w4
        have HT9 : Hid (tkB x key ps y.d = true) := Lib.hid (by rw [HTY.out]; rfl)
        have v1 := V_w5.out.cell 1 rfl
        go_wp2_with (at_builtin; refine wpList_app1 gT_len gT_one (by decide) w5 rfl _ _ 45 rfl (.string ByteArray.empty) 16 Tryz.underlying45 strInfo9 rfl (by decide) w1.heap.size _ (TR k) y.d.qu (by rfl) O_w5.out (by rfl) w1 B_w5.out B_w5.out.size (by have := HQL.out; omega) ?_; intro v9 w9 hown9 hb9 hs9; have O_w9 := Lib.hid hown9; have B_w9 := Lib.hid hb9; clear hown9 hb9 hs9 v1)
        go_roundg n
        case measure => omega
        case rel => exact ⟨k + 1, by have := HG.out; omega, nxt k (by have := HNX.out; have := HG.out; omega), by rw [HNK.out, if_pos HT9.out]; exact O_w9.out, B_w9.out⟩


theorem taken_any (A2 : Option Addr) (c2 : Nat) (xs : List BE) (x : Ex) (key : ByteArray) (ps : List PR) (Ap : Option Addr) (np cp : Nat) (w : World) (h : BI w w.heap.size A2 xs) (hk : KO x.kd) (hn : xs.length ≤ 100000) :
    Calls Tryz.prog 74 #[.slice A2 xs.length c2, exV x, enV key Ap np cp] w fun e w' => ∃ v, e = .returned v ∧ OwnT w' w.heap.size v (takenR (xs.map BE.d) x key ps) ∧ Below w.heap.size w w' := by
  rcases hk with hk | hk
  · exact taken_1 A2 c2 xs x key ps Ap np cp w h hk hn
  · exact taken_2 A2 c2 xs x key ps Ap np cp w h hk hn
end Go.Proofs.YtjkhfifnfgchgabGreatDoor
