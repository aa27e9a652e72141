/-
  The walk of SlowOrder. Conditions: the list of policies reads as data; its length is an int.
-/
import Derived.Test.YtgnbiicfabldbabSl
import Derived.Test.YtgnbiicfabldbabSk
namespace Go.Proofs.Ytgnbiicfabldbab
open Go.RowKit
open S2 (BK Put)

theorem ny_of {n : Nat} (h : ¬ (0 : Int) < (n : Int)) : n = 0 := by omega
def polA (P : List Int) (k : Nat) : Int := if 0 < P.length then P.getD (k % P.length) 0 else 2
def rowB (N : Nat) (F : Nat → Bool) : List Value := (List.range N).map (fun j => Value.bool (F j))
theorem rowB_at {N j : Nat} {F : Nat → Bool} (h : j < N) : (rowB N F)[j]? = some (.bool (F j)) := by unfold rowB; rw [List.getElem?_map, List.getElem?_range h]; rfl
theorem rowB_set {N s : Nat} {F G : Nat → Bool} (h : ∀ j, G j = (decide (j = s) || F j)) : (rowB N F).set s (.bool true) = rowB N G := by
  apply List.ext_getElem?
  intro j
  by_cases hj : j < N
  · rw [rowB_at hj, List.getElem?_set]
    by_cases e : s = j
    · subst e
      rw [if_pos rfl, if_pos (by unfold rowB; simpa using hj), h]; simp
    · rw [if_neg e, rowB_at hj, h, decide_eq_false (fun e2 => e e2.symm)]; simp
  · rw [List.getElem?_eq_none (by unfold rowB; simp; omega), List.getElem?_eq_none (by unfold rowB; simp; omega)]
theorem boolInfo : (Try.prog.info? 4).map (fun i => (i.zero, i.size, i.bytes)) = some (some (.bool false), 1, 1) := by kernel_rfl
theorem make_bools (n : Nat) (hn : n ≤ 1000) (w : World) : (Instr.makeSlice 41 (.int .i64 ((n : Int) + 1)) (.int .i64 ((n : Int) + 1))).run Try.prog w =
      .ok (.slice (some ⟨w.heap.size, 0, none⟩) (n + 1) (n + 1)) (w.alloc (.cells ((rowB (n + 1) (fun _ => false)).toArray) 4)) := by
  obtain ⟨i, hi, hz, hz1, hz2⟩ := info_parts boolInfo
  have hr := run_make (P := Try.prog) w 41 4 i (.bool false) Try.underlying41 hi hz .i64 .i64 ((n : Int) + 1) ((n : Int) + 1) (by omega) (by omega) (by rw [hz2]; omega) (by omega)
  have e1 : ((n : Int) + 1).toNat = n + 1 := by omega
  rw [e1] at hr
  rw [hr]
  have : madeCells (Value.bool false).cells ((n + 1) * i.size) = (rowB (n + 1) (fun _ => false)).toArray := by
    rw [hz1, Nat.mul_one]
    apply Array.ext
    · simp [madeCells, rowB]
    · intro j h1 h2
      simp [madeCells, rowB, Value.cells, Nat.mod_one]
  rw [this]
/-- the seq of an element -/
theorem seq_at {w : World} {A : Option Addr} {ys : List ME} {a : List Nat} (hy : ys.map ME.m = a.map numM) (h : MI w w.heap.size A ys) {k s : Nat} (hs : a[k]? = some s) : ∃ b o, A = some ⟨b, o, none⟩ ∧ b < w.heap.size ∧ w.cell? ⟨b, o + k * 9 + 7, none⟩ = some (.int .i64 (s : Int)) := by
  have h1 : (ys.map ME.m)[k]? = some (numM s) := by rw [hy, List.getElem?_map, hs]; rfl
  rw [List.getElem?_map] at h1
  cases hk : ys[k]? with
  | none => rw [hk] at h1; cases h1
  | some x =>
    rw [hk] at h1
    have hx : x.m = numM s := Option.some.inj h1
    obtain ⟨b, o, e, hb, hc, _⟩ := h.at_ hk
    refine ⟨b, o, e, hb, ?_⟩
    have := hc 7 (.int .i64 x.m.seq) rfl
    rwa [hx] at this
theorem kept_drop {mx pol : Int} {n lo : Nat} {a : List Nat} (h : Kept mx pol n a) (hp : pol = 1) (hl : lo = n - min n mx.toNat) : a.map numM = ((numL n).drop lo).map ME.m := by
  unfold Kept at h
  rw [if_pos hp] at h
  rw [List.map_drop, numL_map, h, ← List.map_drop, hl]
  congr 1
  have e := List.range'_append_1 (s := 1) (m := n - min n mx.toNat) (n := min n mx.toNat)
  rw [show n - min n mx.toNat + min n mx.toNat = n by omega] at e
  rw [← e, List.drop_left' (by simp), Nat.add_comm 1]
theorem kept_take {mx pol : Int} {n K : Nat} {a : List Nat} (h : Kept mx pol n a) (hp : pol ≠ 1) (hl : K = min n mx.toNat) : a.map numM = ((numL n).take K).map ME.m := by
  unfold Kept at h
  rw [if_neg hp] at h
  rw [List.map_take, numL_map, h, ← List.map_take, hl]
  congr 1
  have e := List.range'_append_1 (s := 1) (m := min n mx.toNat) (n := n - min n mx.toNat)
  rw [show min n mx.toNat + (n - min n mx.toNat) = n by omega] at e
  rw [← e, List.take_left' (by simp)]
theorem num_ok {a : List Nat} : ∀ x ∈ a.map numM, MOk x := fun x hx => by
  obtain ⟨i, _, rfl⟩ := List.mem_map.1 hx
  exact ⟨by show ([] : List PR).length ≤ _; simp, by show (0 : Nat) ≤ _; omega⟩

theorem bk_setD {T : TypeId} {w : World} {g s n : Nat} {u : Value} {vs vs' : List Value} (h : BK T w g vs) (e : vs.set s u = vs') : BK T ((w.drewN n).setCell ⟨g, s, none⟩ u) g vs' := e ▸ ((h.step (below_drewN w n)).set s u)
theorem drop_far {w : World} {A : Option Addr} {xs : List ME} {lo c : Nat} (h : MI w w.heap.size A xs) (h1 : lo ≤ xs.length) (hc : xs.length ≤ c) : MI w w.heap.size (A.map (·.add (lo * 9))) (xs.drop lo) := by
  by_cases e : c = lo
  · rw [List.drop_eq_nil_of_le (by omega)]; exact LI.nil _ _ _
  · have := LI.drop h h1 hc
    rwa [if_neg e] at this
/-- append where what grows is told -/
theorem wpList_appGx {P : Program} {α : Type} {g : α → List Value} {k : Nat} {e : TypeId} {ops : Array Oper} {rest : List Oper} {o : Oper} {a : Act} {Q : Exit → Act → World → Prop} (hk0 : 0 < k) (wr : World) (hgd : Region.wanted o (yielded ops a.tmps) = true) (s x : Operand) (t tx : TypeId)
    (ho : o.op = .call { callee := .builtin .append, args := #[s, x], argTypes := #[t, tx] }) (z : Value) (bytes : Nat) (ht : P.underlying t = some (.slice e))
    (hi : (P.info? e).map (fun i => (i.zero, i.size, i.bytes)) = some (some z, k, bytes)) (hzs : z.cells.size = k) (hby : 0 < bytes) (B : Nat) (v : Value) (xs ys : List α) (hs : a.eval s = v) (hown : OwnG e g k wr B v xs)
    (vx : Value) (hx : a.eval x = vx) (hsrc : Src P k tx vx ys.length (ys.flatMap g) wr) (w0 : World) (hb : Below B w0 wr) (hB : B ≤ wr.heap.size) (hn : (xs.length + ys.length) * bytes ≤ 140737488355328)
    (h : ∀ v' w', OwnG e g k w' B v' (xs ++ ys) → Below B w0 w' → B ≤ w'.heap.size → wr.grownBy w' v.ownBlock → wpList P ops Q rest (a.put o.dst v') w') : wpList P ops Q (o :: rest) a wr :=
  S2.wpList_wanted hgd fun K hK => oper_appG hk0 s x t tx ho z bytes ht hi hzs hby B v xs ys vx hs hown hx hsrc hB hn (fun v' w' h1 hgr _ => hK _ _ (h v' w' h1 (Below.grow hb hown hgr hB (Nat.le_refl _)) (by have := hgr.size; omega) hgr))
/-- a list of messages without properties stays where another one grows -/
theorem mi_grow {w w' : World} {A : Option Addr} {ys : List ME} (h : MI w w.heap.size A ys) {row : Option Nat} (hgr : w.grownBy w' row) (hne : ∀ b o, A = some ⟨b, o, none⟩ → row ≠ some b) (hp : ∀ y ∈ ys, y.m.props = []) : MI w' w'.heap.size A ys := by
  refine ⟨fun hn => ?_, fun y hy => by rw [show mps y = [] from hp y hy]; exact GL.nil _ _ _⟩
  obtain ⟨b, o, e, hb, hc⟩ := h.1 hn
  refine ⟨b, o, e, Nat.lt_of_lt_of_le hb hgr.size, fun j x i v hx hv => ?_⟩
  rw [World.cell?_of_block (a := ⟨b, o + j * 9 + i, none⟩) (hgr.block b hb (fun e2 => hne b o e e2.symm))]
  exact hc j x i v hx hv
theorem num_props {a : List Nat} {ys : List ME} (h : ys.map ME.m = a.map numM) : ∀ y ∈ ys, y.m.props = [] := fun y hy => by
  have : y.m ∈ a.map numM := by rw [← h]; exact List.mem_map_of_mem hy
  obtain ⟨i, _, e⟩ := List.mem_map.1 this
  rw [← e]; rfl

set_option maxRecDepth 20000 in
set_option maxHeartbeats 8000000 in
theorem slowOrder_walk17 (y : UInt8) (mx : Int) (A2 : Option Addr) (c2 : Nat) (P : List Int) (w : World) (sl : S2.IL w w.heap.size A2 P) (hN : P.length ≤ 9223372036854775807) :
    Calls Try.prog 7 #[.int .u8 (y.toNat : Int), .int .i64 mx, .slice A2 P.length c2] w fun e w' => e = .returned (.bool true) ∧ Below w.heap.size w w' := by
  have HS := Lib.hid sl
  have HPN := Lib.hid hN
  obtain ⟨n, hn⟩ : ∃ n : Nat, (y.toNat : Int) % 101 = n := ⟨y.toNat % 101, by omega⟩
  have hn2 : n ≤ 100 := by omega
  have hy0 := y.toNat_lt
  have hy1 : wrap64 (y.toNat : Int) = (y.toNat : Int) := S2.wrap64_id _ (by omega) (by omega)
  have hy2 : Int.tmod (y.toNat : Int) 101 = (n : Int) := by rw [Int.tmod_eq_emod_of_nonneg (by omega)]; exact hn
  have HN := Lib.hid hn2
  have HNU := Lib.hid (numbered_any n (by omega))
  have HPU := Lib.hid (fun A c (ys : List ME) m pol w1 h1 h2 h3 h4 h5 h6 => sPushN_any A c ys m none 0 mx pol w1 h1 h2 h3 h4 h5 h6)
  clear sl hN hn hy0
  go_enter Try.func7, Try.ntmps7
  go_wp2_with fail
  refine (HNU.out w).mono ?_
  rintro e w1 ⟨A1, c1, rfl, hc1, hl1, hb⟩
  have B_w1 := Lib.hid hb
  have L_w1 := Lib.hid hl1
  have HC1 := Lib.hid hc1
  clear hb hl1 hc1 hy1 hy2 HNU
  go_wp2_with fail
  go_loopg [8, 9, 10] n (fun g v8 v9 v10 wr => ∃ (k : Nat) (a d : List Nat) (A : Option Addr) (c ny : Nat) (ys zs : List ME), k + g = n ∧ v10 = .int .i64 k ∧ v8 = .slice A ny c ∧ ny = ys.length ∧ ys.map ME.m = a.map numM ∧ ys.length ≤ c ∧ MI wr wr.heap.size A ys ∧ OwnM wr w1.heap.size v9 zs ∧ zs.map ME.m = d.map numM ∧ Ordd mx k a d ∧ (P.length = 1 → 1 ≤ mx → Kept mx (polA P 0) k a) ∧ Below w1.heap.size w1 wr)
  case atStart => exact ⟨0, [], [], none, 0, 0, [], [], by omega, rfl, rfl, rfl, rfl, Nat.le_refl _, LI.nil _ _ _, OwnG.nil _ _, rfl, Ordd.zero _, fun _ _ => Kept.zero _ _, Below.refl _ _⟩
  case round =>
    obtain ⟨k, a, d, A, c, ny, ys, zs, hkg, rfl, rfl, hny, hys, hcy, hmi, hown, hzs, hord, hkept, hb0⟩ := hrel
    have HY := Lib.hid (And.intro hys (And.intro hcy hny))
    have M_wr := Lib.hid hmi
    have O_wr := Lib.hid hown
    have HZ := Lib.hid hzs
    have HOR := Lib.hid hord
    have HKE := Lib.hid hkept
    have B_wr := Lib.hid hb0
    have HK := Lib.hid hkg
    have HLA : Hid (ys.length = a.length ∧ zs.length = d.length) := Lib.hid ⟨by have := congrArg List.length hys; simpa using this, by have := congrArg List.length hzs; simpa using this⟩
    have hlk : k ≤ 100 := by omega
    clear hys hcy hny hmi hown hzs hord hkept hb0
    cases gk with
    | succ gk =>
      have hlt : k < n := by omega
      have e3 : decide ((k : Int) < (n : Int)) = true := decide_eq_true (by omega)
      have j1 : (0 : Int) ≤ (k : Int) := by omega
      have j2 : (k : Int) < (n : Int) := by omega
      obtain ⟨bl, ol, hA1, hbl, hcl, _⟩ := (L_w1.out.step B_wr.out).at_ (numL_at hlt)
      have HLD := Lib.hid (load_msg hcl)
      obtain ⟨pol, hpol⟩ : ∃ p, polA P k = p := ⟨_, rfl⟩
      have HPOL := Lib.hid hpol
      have CA := Lib.hid (HPU.out A c ys (numM (k + 1)) pol wr M_wr.out (GL.nil _ _ _) HY.out.2.1 (by rw [HLA.out.1]; have := HOR.out.len; omega) (ok_of HY.out.1 num_ok) (Nat.zero_le _))
      have hny2 := HY.out.2.2
      rw [← hny2] at CA
      clear hcl hbl hkg hny2 hpol
      subst hA1
      unfold msgV at CA HLD
      by_cases hp0 : 0 < P.length
      case neg =>
        have e5 : decide ((0 : Int) < (P.length : Int)) = false := decide_eq_false (by omega)
        have e6 : decide (0 < P.length) = false := decide_eq_false hp0
        obtain rfl : pol = 2 := by rw [← HPOL.out]; unfold polA; rw [if_neg hp0]
        obtain ⟨np, hnp⟩ : ∃ np, np = P.length := ⟨_, rfl⟩
        have HNP := Lib.hid hnp
        rw [← hnp] at e5 e6 ⊢
        clear hnp hp0
        go_wp2_with first
          | (refine wpList_load_v (by rfl) 25 _ rfl ⟨bl, ol + k * 9, none⟩ (by go_simp) _ HLD.out ?_)
        refine CA.out.mono ?_
        rintro e w2 ⟨A5, c5, ys2, A6, c6, gs, rfl, hys2, hgs, hcy2, hcg, hm2, hg2, hb, hnw⟩
        obtain ⟨p1, p2⟩ := push_num a (k + 1) mx 2
        rw [HY.out.1] at hys2 hgs
        rw [p1] at hys2
        rw [p2] at hgs
        have HY2 := Lib.hid (And.intro hys2 hcy2)
        have HG2 := Lib.hid hgs
        have M_w2 := Lib.hid hm2
        have G_w2 := Lib.hid hg2
        have O_w2 := Lib.hid (OwnG.step O_wr.out hb)
        have HOF : Hid (∀ b o, A5 = some ⟨b, o, none⟩ → u9.ownBlock ≠ some b) := Lib.hid (fun b o e e2 => by have := hnw b o e; have := (own_lt O_wr.out b e2).2; omega)
        have B_w2 := Lib.hid (stepB B_wr.out hb)
        have hgl : gs.length ≤ 1 := by have := congrArg List.length hgs; simp only [List.length_map] at this; rw [this]; exact pushN_small _ _ _ _
        have HGL := Lib.hid hgl
        obtain ⟨ng, hng⟩ : ∃ ng, ng = gs.length := ⟨_, rfl⟩
        have HNG := Lib.hid hng
        have g1 : decide ((1 : Int) < (ng : Int)) = false := decide_eq_false (by omega)
        have g2 : decide (1 < ng) = false := decide_eq_false (by omega)
        have hzl : zs.length ≤ 100 := by rw [HLA.out.2]; have := HOR.out.len; omega
        have HZL := Lib.hid hzl
        obtain ⟨ny2, hny2⟩ : ∃ ny2, ny2 = ys2.length := ⟨_, rfl⟩
        have HNY2 := Lib.hid hny2
        rw [← hng, ← hny2]
        clear hys2 hgs hcy2 hcg hm2 hg2 hb p1 p2 hgl hng hzl CA HLD hnw hny2
        go_wp2_with (at_builtin; refine wpList_appGx (g := gM) (k := 9) (e := 25) (by decide) w2 (by rfl) _ _ 22 22 rfl (.agg (msgC Msg.zero none 0).toArray) 112 Try.underlying22 msgInfo rfl (by decide) w1.heap.size _ zs gs rfl O_w2.out (.slice A6 ng c6) rfl (by rw [HNG.out]; exact GL.src gM_len gM_one G_w2.out.1 Try.underlying22 c6) w1 B_w2.out B_w2.out.size (by have := HZL.out; have := HGL.out; omega) ?_; intro v3 w3 hown3 hb3 hs3 hgr3)
        have O_w3 := Lib.hid hown3
        have M_w3 : Hid (MI w3 w3.heap.size A5 ys2) := Lib.hid (mi_grow M_w2.out hgr3 HOF.out (num_props HY2.out.1))
        have B_w3 := Lib.hid hb3
        clear hown3 hb3 hs3 hgr3
        obtain rfl := HNP.out
        go_roundg gk
        case measure => omega
        case rel => exact ⟨k + 1, (pushN a (k + 1) mx 2).1, d ++ (pushN a (k + 1) mx 2).2, A5, c5, ny2, ys2, zs ++ gs, by have := HK.out; omega, by go_num, rfl, HNY2.out, HY2.out.1, HY2.out.2, M_w3.out, O_w3.out, by rw [List.map_append, HZ.out, HG2.out, List.map_append], HOR.out.push 2, fun h1 h2 => by rw [show 2 = polA P 0 from by rw [← HPOL.out]; unfold polA; rw [h1, Nat.mod_one, Nat.mod_one]]; exact (HKE.out h1 h2).push h2, B_w3.out⟩
      have hm : k % P.length < P.length := Nat.mod_lt _ hp0
      obtain ⟨pv, hpv⟩ : ∃ v, P[k % P.length]? = some v := ⟨_, List.getElem?_eq_getElem hm⟩
      obtain ⟨bp, op, hA2, hbp, hcp⟩ := CL.step HS.out (stepB B_w1.out B_wr.out) (by omega)
      have dp : wr.cell? ⟨bp, op + k % P.length, none⟩ = some (.int .i64 pv) := hcp _ _ hpv
      obtain rfl : pol = pv := by rw [← HPOL.out]; unfold polA; rw [if_pos hp0, List.getD_eq_getElem?_getD, hpv]; rfl
      have HPL1 : Hid (P.length = 1 → k % P.length = 0) := Lib.hid (fun h => by rw [h]; omega)
      have u2 : Int.tmod (k : Int) (P.length : Int) = ((k % P.length : Nat) : Int) := by rw [Int.tmod_eq_emod_of_nonneg (by omega), Int.natCast_emod]
      have u3 : ((P.length : Int) == 0) = false := beq_eq_false_iff_ne.2 (by omega)
      obtain ⟨np, hnp⟩ : ∃ np, np = P.length := ⟨_, rfl⟩
      obtain ⟨km, hkm⟩ : ∃ km, km = k % P.length := ⟨_, rfl⟩
      have e5 : decide ((0 : Int) < (P.length : Int)) = true := decide_eq_true (by omega)
      have e6 : decide (0 < P.length) = true := decide_eq_true hp0
      have i1 : (0 : Int) ≤ (km : Int) := by omega
      have i2 : (km : Int) < (np : Int) := by omega
      have i3 : (np : Int) ≠ 0 := by omega
      have hnp63 : np ≤ 9223372036854775807 := by have := HPN.out; omega
      have HNP := Lib.hid hnp
      subst hA2
      rw [← hkm] at dp u2
      rw [← hnp] at e5 e6 u2 u3 ⊢
      clear hm hpv hbp hcp hp0 hnp hkm
      go_wp2_with first
        | (refine wpList_load_v (by rfl) 25 _ rfl ⟨bl, ol + k * 9, none⟩ (by go_simp) _ HLD.out ?_)
      refine CA.out.mono ?_
      rintro e w2 ⟨A5, c5, ys2, A6, c6, gs, rfl, hys2, hgs, hcy2, hcg, hm2, hg2, hb, hnw⟩
      obtain ⟨p1, p2⟩ := push_num a (k + 1) mx pol
      rw [HY.out.1] at hys2 hgs
      rw [p1] at hys2
      rw [p2] at hgs
      have HY2 := Lib.hid (And.intro hys2 hcy2)
      have HG2 := Lib.hid hgs
      have M_w2 := Lib.hid hm2
      have G_w2 := Lib.hid hg2
      have O_w2 := Lib.hid (OwnG.step O_wr.out hb)
      have HOF : Hid (∀ b o, A5 = some ⟨b, o, none⟩ → u9.ownBlock ≠ some b) := Lib.hid (fun b o e e2 => by have := hnw b o e; have := (own_lt O_wr.out b e2).2; omega)
      have B_w2 := Lib.hid (stepB B_wr.out hb)
      have hgl : gs.length ≤ 1 := by have := congrArg List.length hgs; simp only [List.length_map] at this; rw [this]; exact pushN_small _ _ _ _
      have HGL := Lib.hid hgl
      obtain ⟨ng, hng⟩ : ∃ ng, ng = gs.length := ⟨_, rfl⟩
      have HNG := Lib.hid hng
      have g1 : decide ((1 : Int) < (ng : Int)) = false := decide_eq_false (by omega)
      have g2 : decide (1 < ng) = false := decide_eq_false (by omega)
      have hzl : zs.length ≤ 100 := by rw [HLA.out.2]; have := HOR.out.len; omega
      have HZL := Lib.hid hzl
      obtain ⟨ny2, hny2⟩ : ∃ ny2, ny2 = ys2.length := ⟨_, rfl⟩
      have HNY2 := Lib.hid hny2
      rw [← hng, ← hny2]
      clear hys2 hgs hcy2 hcg hm2 hg2 hb p1 p2 hgl hng hzl CA HLD hnw hny2
      go_wp2_with (at_builtin; refine wpList_appGx (g := gM) (k := 9) (e := 25) (by decide) w2 (by rfl) _ _ 22 22 rfl (.agg (msgC Msg.zero none 0).toArray) 112 Try.underlying22 msgInfo rfl (by decide) w1.heap.size _ zs gs rfl O_w2.out (.slice A6 ng c6) rfl (by rw [HNG.out]; exact GL.src gM_len gM_one G_w2.out.1 Try.underlying22 c6) w1 B_w2.out B_w2.out.size (by have := HZL.out; have := HGL.out; omega) ?_; intro v3 w3 hown3 hb3 hs3 hgr3)
      have O_w3 := Lib.hid hown3
      have M_w3 : Hid (MI w3 w3.heap.size A5 ys2) := Lib.hid (mi_grow M_w2.out hgr3 HOF.out (num_props HY2.out.1))
      have B_w3 := Lib.hid hb3
      clear hown3 hb3 hs3 hgr3
      obtain rfl := HNP.out
      go_roundg gk
      case measure => omega
      case rel => exact ⟨k + 1, (pushN a (k + 1) mx pol).1, d ++ (pushN a (k + 1) mx pol).2, A5, c5, ny2, ys2, zs ++ gs, by have := HK.out; omega, by go_num, rfl, HNY2.out, HY2.out.1, HY2.out.2, M_w3.out, O_w3.out, by rw [List.map_append, HZ.out, HG2.out, List.map_append], HOR.out.push pol, fun h1 h2 => by rw [show pol = polA P 0 from by rw [← HPOL.out]; unfold polA; rw [h1, Nat.mod_one, Nat.mod_one]]; exact (HKE.out h1 h2).push h2, B_w3.out⟩
    | zero =>
      obtain ⟨wO, rfl⟩ : ∃ w', w' = wr := ⟨_, rfl⟩
      have hkn : k = n := by omega
      rw [hkn] at HOR HKE
      have e3 : decide ((k : Int) < (n : Int)) = false := decide_eq_false (by omega)
      obtain ⟨A9, c9, rfl, hc9, hgl9⟩ := OwnG.ret gM_len O_wr.out
      have D_wr : Hid (MI wO wO.heap.size A9 zs) := Lib.hid ⟨hgl9, fun y hy => by rw [show mps y = [] from num_props HZ.out y hy]; exact GL.nil _ _ _⟩
      obtain ⟨nz, hnz⟩ : ∃ nz, nz = zs.length := ⟨_, rfl⟩
      have HLN : Hid (ny = a.length ∧ nz = d.length) := Lib.hid ⟨by rw [HY.out.2.2, HLA.out.1], by rw [hnz, HLA.out.2]⟩
      have hsum : ny + nz = n := by rw [HLN.out.1, HLN.out.2]; exact HOR.out.len
      have q1 : ((ny : Int) + (nz : Int) != (n : Int)) = false := by simp; omega
      have q1' : (ny + nz != n) = false := by simp; omega
      have hln := HN.out
      have hny1 : ny ≤ 100 := by omega
      have hnz1 : nz ≤ 100 := by omega
      rw [← hnz]
      clear hkg hc9 hgl9 hnz hlk
      by_cases hy0 : 0 < ny
      · have q2 : decide ((0 : Int) < (ny : Int)) = true := decide_eq_true (by omega)
        have q2' : decide (0 < ny) = true := decide_eq_true hy0
        have q2'' : decide (ny = 0) = false := decide_eq_false (by omega)
        have q3 : decide (mx < (ny : Int)) = false := decide_eq_false (by have := HOR.out.max (by intro h; rw [h] at HLN; have := HLN.out.1; simp at this; omega); have := HLN.out.1; omega)
        have QC : True := trivial
        have hmk := make_bools n (by have := HN.out; omega)
        go_upto_region 17 with fail
        refine name_world (C := fun w4 => Code.wp _ _ _ _ w4) (wO.alloc (.cells (rowB (n + 1) (fun _ => false)).toArray 4)) ?_
        intro w4 hw4
        have hb4 : Below wO.heap.size wO w4 := by rw [hw4]; exact S2.below_new wO _
        have T_w4 : Hid (BK 4 w4 wO.heap.size (rowB (n + 1) (fun j => decide (j ∈ a.take 0)))) := Lib.hid (by rw [hw4]; simp only [List.take_zero, List.not_mem_nil, decide_false]; exact BK.new wO _ _)
        have C_w4 := Lib.hid hb4
        obtain ⟨gB, hgB⟩ : ∃ gB, gB = wO.heap.size := ⟨_, rfl⟩
        have HGB := Lib.hid hgB
        rw [← hgB] at T_w4 ⊢
        clear hw4 hb4 hgB hmk QC
        go_wp2_with fail
        go_loopg [16] ny (fun g v wx => ∃ (k : Nat), k + g = ny ∧ v = .int .i64 k ∧ BK 4 wx gB (rowB (n + 1) (fun j => decide (j ∈ a.take k))) ∧ Below wO.heap.size wO wx)
        case atStart => exact ⟨0, by omega, rfl, T_w4.out, C_w4.out⟩
        case round =>
          obtain ⟨k, hkg, rfl, hbk, hb5⟩ := hrel
          have T_x := Lib.hid hbk
          have C_x := Lib.hid hb5
          have HK := Lib.hid hkg
          clear hbk hb5 T_w4 C_w4
          cases gk with
          | succ gk =>
            have hlt : k < ny := by omega
            have e3 : decide ((k : Int) < (ny : Int)) = true := decide_eq_true (by omega)
            obtain ⟨s, hs⟩ : ∃ s, a[k]? = some s := ⟨_, List.getElem?_eq_getElem (by have := HLN.out; omega)⟩
            obtain ⟨b, o, hA, hb, d7⟩ := seq_at HY.out.1 (M_wr.out.step C_x.out) hs
            have hsr := HOR.out.ra s (List.mem_of_getElem? hs)
            have p2 : decide ((s : Int) < 1) = false := decide_eq_false (by omega)
            have p2' : decide (s < 1) = false := decide_eq_false (by omega)
            have p2'' : decide (s = 0) = false := decide_eq_false (by omega)
            have p3 : decide ((n : Int) < (s : Int)) = false := decide_eq_false (by omega)
            have p3' : decide (n < s) = false := decide_eq_false (by omega)
            have j1 : (0 : Int) ≤ (k : Int) := by omega
            have j2 : (k : Int) < (ny : Int) := by omega
            have j3 : (0 : Int) ≤ (s : Int) := by omega
            have j4 : (s : Int) < (n : Int) + 1 := by omega
            have j5 : s < n + 1 := by omega
            have hn1 := HN.out
            have hs0 := T_x.out.cell s (rowB_at j5)
            have f0 := T_x.out.free s
            have g0 := T_x.out.lt
            have HSS := Lib.hid hs
            by_cases hk0 : k = 0
            case pos =>
              have z1 : decide ((0 : Int) < (k : Int)) = false := decide_eq_false (by omega)
              have z2 : decide (0 < k) = false := decide_eq_false (by omega)
              have z3 : (k == 0) = true := by simp [hk0]
              subst hA
              clear hs hkg hk0 hb
              go_wp2_with fail
              go_quiet (fail)
              go_wp2_with fail
              go_roundg gk
              case measure => omega
              case rel => exact ⟨k + 1, by have := HK.out; omega, by go_num, bk_setD T_x.out (rowB_set (G := fun j => decide (j ∈ a.take (k + 1))) (fun j => by rw [List.take_add_one, HSS.out]; simp [Bool.or_comm])), (stepB C_x.out (below_drewN _ _)).setCell (p := ⟨gB, s, none⟩) (by show _ ≤ gB; rw [HGB.out]; exact Nat.le_refl _) _⟩
            obtain ⟨j, hj⟩ : ∃ j, k = j + 1 := ⟨k - 1, by omega⟩
            obtain ⟨s', hs'⟩ : ∃ s', a[j]? = some s' := ⟨_, List.getElem?_eq_getElem (by have := HLN.out; omega)⟩
            obtain ⟨b2, o2, hA2, _, d8⟩ := seq_at HY.out.1 (M_wr.out.step C_x.out) hs'
            rw [hA] at hA2
            simp only [Option.some.injEq, Addr.mk.injEq, and_true] at hA2
            obtain ⟨rfl, rfl⟩ := hA2
            have hlt2 : s' < s := by
              obtain ⟨hk1, e1⟩ := List.getElem?_eq_some_iff.1 hs
              obtain ⟨hk2, e2⟩ := List.getElem?_eq_some_iff.1 hs'
              rw [← e1, ← e2]
              exact List.pairwise_iff_getElem.1 HOR.out.asc j k hk2 hk1 (by omega)
            have z1 : decide ((0 : Int) < (k : Int)) = true := decide_eq_true (by omega)
            have z2 : decide (0 < k) = true := decide_eq_true (by omega)
            have z3 : (k : Int) - 1 = (j : Int) := by omega
            have p1 : decide ((s : Int) ≤ (s' : Int)) = false := decide_eq_false (by omega)
            have p1' : decide (s ≤ s') = false := decide_eq_false (by omega)
            have i1 : (0 : Int) ≤ (j : Int) := by omega
            have i2 : (j : Int) < (ny : Int) := by omega
            have hjk : j ≤ 100 := by omega
            have hkk : k ≤ 100 := by omega
            subst hA
            clear hs hs' hkg hk0 hb hj hlt2
            go_wp2_with fail
            go_quiet (fail)
            go_wp2_with fail
            go_roundg gk
            case measure => omega
            case rel => exact ⟨k + 1, by have := HK.out; omega, by go_num, bk_setD T_x.out (rowB_set (G := fun j => decide (j ∈ a.take (k + 1))) (fun j => by rw [List.take_add_one, HSS.out]; simp [Bool.or_comm])), (stepB C_x.out (below_drewN _ _)).setCell (p := ⟨gB, s, none⟩) (by show _ ≤ gB; rw [HGB.out]; exact Nat.le_refl _) _⟩
          | zero =>
            have hkny : k = ny := by omega
            have e3 : decide ((k : Int) < (ny : Int)) = false := decide_eq_false (by omega)
            have T_y : Hid (BK 4 wr gB (rowB (n + 1) (fun j => decide (j ∈ a) || decide (j ∈ d.take 0)))) := Lib.hid (by
              have h := T_x.out
              rw [List.take_of_length_le (by have := HLN.out; omega)] at h
              simpa using h)
            have D_x := Lib.hid (D_wr.out.step C_x.out)
            clear hkg
            go_wp2_with fail
            go_loopg [17] nz (fun g v wx => ∃ (i : Nat), i + g = nz ∧ v = .int .i64 i ∧ BK 4 wx gB (rowB (n + 1) (fun j => decide (j ∈ a) || decide (j ∈ d.take i))) ∧ Below wO.heap.size wO wx)
            case atStart => exact ⟨0, by omega, rfl, T_y.out, C_x.out⟩
            case round =>
              obtain ⟨i, hkg, rfl, hbk, hb6⟩ := hrel
              have T_z := Lib.hid hbk
              have C_z := Lib.hid hb6
              have HI := Lib.hid hkg
              have DZ := Lib.hid (D_wr.out.step C_z.out)
              clear hbk hb6 T_x C_x T_y
              cases gk with
              | succ gk =>
                have hlt : i < nz := by omega
                have e3 : decide ((i : Int) < (nz : Int)) = true := decide_eq_true (by omega)
                obtain ⟨s, hs⟩ : ∃ s, d[i]? = some s := ⟨_, List.getElem?_eq_getElem (by have := HLN.out; omega)⟩
                obtain ⟨b, o, hA, hb, d7⟩ := seq_at HZ.out DZ.out hs
                have hsr := HOR.out.rd s (List.mem_of_getElem? hs)
                have p2 : decide ((s : Int) < 1) = false := decide_eq_false (by omega)
                have p2' : decide (s < 1) = false := decide_eq_false (by omega)
                have p2'' : decide (s = 0) = false := decide_eq_false (by omega)
                have p3 : decide ((n : Int) < (s : Int)) = false := decide_eq_false (by omega)
                have p3' : decide (n < s) = false := decide_eq_false (by omega)
                have j1 : (0 : Int) ≤ (i : Int) := by omega
                have j2 : (i : Int) < (nz : Int) := by omega
                have j3 : (0 : Int) ≤ (s : Int) := by omega
                have j4 : (s : Int) < (n : Int) + 1 := by omega
                have j5 : s < n + 1 := by omega
                have hn1 := HN.out
                have hik : i ≤ 100 := by omega
                have hfs : (decide (s ∈ a) || decide (s ∈ d.take i)) = false := by
                  rw [decide_eq_false (HOR.out.dis s (List.mem_of_getElem? hs)), Bool.false_or]
                  refine decide_eq_false (fun hm => ?_)
                  obtain ⟨q, hq⟩ := List.mem_iff_getElem?.1 hm
                  rw [List.getElem?_take] at hq
                  split at hq
                  · next hqi =>
                    obtain ⟨h1, e1⟩ := List.getElem?_eq_some_iff.1 hq
                    obtain ⟨h2, e2⟩ := List.getElem?_eq_some_iff.1 hs
                    exact absurd (e1.trans e2.symm) (List.pairwise_iff_getElem.1 HOR.out.nd q i h1 h2 (by omega))
                  · cases hq
                have hs0 : wr.cell? ⟨gB, s, none⟩ = some (.bool false) := by have h := T_z.out.cell s (rowB_at j5); rwa [hfs] at h
                have f0 := T_z.out.free s
                have g0 := T_z.out.lt
                have HSS := Lib.hid hs
                subst hA
                clear hs hkg hb hfs
                go_wp2_with fail
                go_roundg gk
                case measure => omega
                case rel => exact ⟨i + 1, by have := HI.out; omega, by go_num, (by
                  have h := T_z.out.set s (.bool true)
                  rwa [rowB_set (G := fun j => decide (j ∈ a) || decide (j ∈ d.take (i + 1))) (fun j => by rw [List.take_add_one, HSS.out]; simp [Bool.or_comm, Bool.or_left_comm])] at h), C_z.out.setCell (p := ⟨gB, s, none⟩) (by show _ ≤ gB; rw [HGB.out]; exact Nat.le_refl _) _⟩
              | zero =>
                have hinz : i = nz := by omega
                have B_n : Hid (Below w.heap.size w wr) := Lib.hid (stepB (stepB B_w1.out B_wr.out) C_z.out)
                have Y_n := Lib.hid (M_wr.out.step C_z.out)
                have L_n : Hid (MI wr wr.heap.size A1 (numL n)) := Lib.hid (L_w1.out.step (stepB B_wr.out C_z.out))
                have S_n : Hid (S2.IL wr wr.heap.size A2 P) := Lib.hid (CL.step HS.out B_n.out)
                have e9 : decide ((i : Int) < (nz : Int)) = false := decide_eq_false (by omega)
                clear hkg T_z DZ
                by_cases hP1 : P.length = 1
                case neg =>
                  have r1 : ((P.length : Int) != 1) = true := by simp; omega
                  have r1' : (P.length != 1) = true := by simp; omega
                  go_wp2_with fail
                  refine (awake17_any _).mono ?_
                  rintro e w7 ⟨rfl, hb⟩
                  have B_7 := Lib.hid (stepB B_n.out hb)
                  clear hb
                  go_wp2
                  go_ret
                  exact ⟨rfl, B_7.out⟩
                have r1 : ((P.length : Int) != 1) = false := by simp; omega
                have r1' : (P.length != 1) = false := by simp; omega
                obtain ⟨pv, hpv⟩ : ∃ v, P[0]? = some v := ⟨_, List.getElem?_eq_getElem (by omega)⟩
                have hpA : polA P 0 = pv := by unfold polA; rw [if_pos (by omega), Nat.zero_mod, List.getD_eq_getElem?_getD, hpv]; rfl
                have HKE2 : Hid (1 ≤ mx → Kept mx pv n a) := Lib.hid (fun h => by have := HKE.out hP1 h; rwa [hpA] at this)
                obtain ⟨bp, op, hA2, _, hcp⟩ := S_n.out (by omega)
                have HCP : Hid (wr.cell? ⟨bp, op, none⟩ = some (.int .i64 pv)) := Lib.hid (hcp 0 _ hpv)
                obtain ⟨np, hnp⟩ : ∃ np, np = P.length := ⟨_, rfl⟩
                have hnp1 : np = 1 := by omega
                rw [← hnp] at r1 r1' ⊢
                subst hA2
                have n0 : (0 : Int) < (np : Int) := by omega
                have n1 : 0 < np := by omega
                have n2 : np ≠ 0 := by omega
                clear hpv hpA hcp hnp hnp1 S_n hP1
                by_cases hm1 : mx < 1
                case pos =>
                  have r2 : decide (mx < 1) = true := decide_eq_true hm1
                  go_wp2_with fail
                  refine (awake17_any _).mono ?_
                  rintro e w7 ⟨rfl, hb⟩
                  have B_7 := Lib.hid (stepB B_n.out hb)
                  clear hb
                  go_wp2
                  go_ret
                  exact ⟨rfl, B_7.out⟩
                have r2 : decide (mx < 1) = false := decide_eq_false hm1
                have HK9 := Lib.hid (HKE2.out (by omega))
                obtain ⟨K, rfl⟩ : ∃ K : Nat, mx = (K : Int) := ⟨mx.toNat, by omega⟩
                have hcc := HC1.out
                have hnn := HN.out
                by_cases hmn : n < K
                case pos =>
                  have v1 : decide ((n : Int) < (K : Int)) = true := decide_eq_true (by omega)
                  have v1' : decide (n < K) = true := decide_eq_true (by omega)
                  by_cases hp1 : pv = 1
                  case pos =>
                    have HFIN : Hid (∀ w1, Below wr.heap.size wr w1 → Calls Try.prog 13 #[.slice A ny c, .slice A1 n c1] w1 fun e w' => e = .returned (.bool true) ∧ Below w1.heap.size w1 w') := Lib.hid (fun w1 h => by
                      have h2 := same_true A c ys A1 c1 (numL n) w1 (a.map numM) HY.out.1 (by have := kept_drop HK9.out hp1 (lo := 0) (by simp; omega); rw [List.drop_zero] at this; exact this.symm) (Y_n.out.step h) (L_n.out.step h) (by rw [List.length_map]; have := HLN.out; omega) num_ok
                      rwa [← HY.out.2.2, numL_len] at h2)
                    have t1 : (pv == 1) = true := by simp [hp1]
                    have d1 := HCP.out
                    have u1 : (0 : Int) ≤ (n : Int) := by omega
                    have u2 : (n : Int) ≤ (c1 : Int) := by omega
                    have u3 : (0 : Int) ≤ (K : Int) := by omega




                    clear hp1
                    go_wp2_with fail
                    refine (awake17_any _).mono ?_
                    rintro e w7 ⟨rfl, hb⟩
                    have B_7 := Lib.hid (stepB B_n.out hb)
                    have CF := Lib.hid (HFIN.out w7 hb)
                    clear hb d1 HFIN
                    go_wp2_with fail
                    refine CF.out.mono ?_
                    rintro e w8 ⟨rfl, hb⟩
                    have B_8 := Lib.hid (stepB B_7.out hb)
                    clear hb
                    go_wp2
                    go_ret
                    exact ⟨rfl, B_8.out⟩
                  case neg =>
                    have HFIN : Hid (∀ w1, Below wr.heap.size wr w1 → Calls Try.prog 13 #[.slice A ny c, .slice A1 n c1] w1 fun e w' => e = .returned (.bool true) ∧ Below w1.heap.size w1 w') := Lib.hid (fun w1 h => by
                      have h2 := same_true A c ys A1 c1 ((numL n).take n) w1 (a.map numM) HY.out.1 (kept_take HK9.out hp1 (by simp; omega)).symm (Y_n.out.step h) (LI.take (L_n.out.step h) n) (by rw [List.length_map]; have := HLN.out; omega) num_ok
                      rwa [← HY.out.2.2, List.length_take, numL_len, Nat.min_eq_left (by omega)] at h2)
                    have t1 : (pv == 1) = false := by simp [hp1]
                    have d1 := HCP.out
                    have u1 : (0 : Int) ≤ (n : Int) := by omega
                    have u2 : (n : Int) ≤ (c1 : Int) := by omega
                    have u3 : (0 : Int) ≤ (K : Int) := by omega




                    clear hp1
                    go_wp2_with fail
                    refine (awake17_any _).mono ?_
                    rintro e w7 ⟨rfl, hb⟩
                    have B_7 := Lib.hid (stepB B_n.out hb)
                    have CF := Lib.hid (HFIN.out w7 hb)
                    clear hb d1 HFIN
                    go_wp2_with fail
                    refine CF.out.mono ?_
                    rintro e w8 ⟨rfl, hb⟩
                    have B_8 := Lib.hid (stepB B_7.out hb)
                    clear hb
                    go_wp2
                    go_ret
                    exact ⟨rfl, B_8.out⟩
                case neg =>
                  have v1 : decide ((n : Int) < (K : Int)) = false := decide_eq_false (by omega)
                  have v1' : decide (n < K) = false := decide_eq_false (by omega)
                  by_cases hp1 : pv = 1
                  case pos =>
                    obtain ⟨lo, hlo⟩ : ∃ lo, lo = n - min n K := ⟨_, rfl⟩
                    have hsub : (n : Int) - (K : Int) = (lo : Int) := by omega
                    have HFIN : Hid (∀ w1, Below wr.heap.size wr w1 → Calls Try.prog 13 #[.slice A ny c, .slice (A1.map (·.add (lo * 9))) (n - lo) (c1 - lo)] w1 fun e w' => e = .returned (.bool true) ∧ Below w1.heap.size w1 w') := Lib.hid (fun w1 h => by
                      have h2 := same_true A c ys (A1.map (·.add (lo * 9))) (c1 - lo) ((numL n).drop lo) w1 (a.map numM) HY.out.1 (kept_drop HK9.out hp1 (by simpa using hlo)).symm (Y_n.out.step h) (drop_far (L_n.out.step h) (by rw [numL_len]; omega) (by rw [numL_len]; exact hcc)) (by rw [List.length_map]; have := HLN.out; omega) num_ok
                      rwa [← HY.out.2.2, List.length_drop, numL_len] at h2)
                    have t1 : (pv == 1) = true := by simp [hp1]
                    have d1 := HCP.out
                    have u1 : (0 : Int) ≤ (n : Int) := by omega
                    have u2 : (n : Int) ≤ (c1 : Int) := by omega
                    have u3 : (0 : Int) ≤ (K : Int) := by omega
                    have u4 : (K : Int) ≤ (c1 : Int) := by omega
                    have u5 : (lo : Int) ≤ (n : Int) := by omega
                    have u6 : (0 : Int) ≤ (lo : Int) := by omega
                    have hk1 : K ≤ 100 := by omega
                    clear hp1 hlo
                    go_wp2_with fail
                    refine (awake17_any _).mono ?_
                    rintro e w7 ⟨rfl, hb⟩
                    have B_7 := Lib.hid (stepB B_n.out hb)
                    have CF := Lib.hid (HFIN.out w7 hb)
                    clear hb d1 HFIN
                    go_wp2_with fail
                    refine CF.out.mono ?_
                    rintro e w8 ⟨rfl, hb⟩
                    have B_8 := Lib.hid (stepB B_7.out hb)
                    clear hb
                    go_wp2
                    go_ret
                    exact ⟨rfl, B_8.out⟩
                  case neg =>
                    obtain ⟨lo, hlo⟩ : ∃ lo, lo = n - min n K := ⟨_, rfl⟩
                    have hsub : (n : Int) - (K : Int) = (lo : Int) := by omega
                    have HFIN : Hid (∀ w1, Below wr.heap.size wr w1 → Calls Try.prog 13 #[.slice A ny c, .slice A1 K c1] w1 fun e w' => e = .returned (.bool true) ∧ Below w1.heap.size w1 w') := Lib.hid (fun w1 h => by
                      have h2 := same_true A c ys A1 c1 ((numL n).take K) w1 (a.map numM) HY.out.1 (kept_take HK9.out hp1 (by simp; omega)).symm (Y_n.out.step h) (LI.take (L_n.out.step h) K) (by rw [List.length_map]; have := HLN.out; omega) num_ok
                      rwa [← HY.out.2.2, List.length_take, numL_len, Nat.min_eq_left (by omega)] at h2)
                    have t1 : (pv == 1) = false := by simp [hp1]
                    have d1 := HCP.out
                    have u1 : (0 : Int) ≤ (n : Int) := by omega
                    have u2 : (n : Int) ≤ (c1 : Int) := by omega
                    have u3 : (0 : Int) ≤ (K : Int) := by omega
                    have u4 : (K : Int) ≤ (c1 : Int) := by omega
                    have u5 : (lo : Int) ≤ (n : Int) := by omega
                    have u6 : (0 : Int) ≤ (lo : Int) := by omega
                    have hk1 : K ≤ 100 := by omega
                    clear hp1 hlo
                    go_wp2_with fail
                    refine (awake17_any _).mono ?_
                    rintro e w7 ⟨rfl, hb⟩
                    have B_7 := Lib.hid (stepB B_n.out hb)
                    have CF := Lib.hid (HFIN.out w7 hb)
                    clear hb d1 HFIN
                    go_wp2_with fail
                    refine CF.out.mono ?_
                    rintro e w8 ⟨rfl, hb⟩
                    have B_8 := Lib.hid (stepB B_7.out hb)
                    clear hb
                    go_wp2
                    go_ret
                    exact ⟨rfl, B_8.out⟩
      · have q2 : decide ((0 : Int) < (ny : Int)) = false := decide_eq_false (by omega)
        have q2' : decide (0 < ny) = false := decide_eq_false hy0
        clear hy0
        have QC : True := trivial
        have hmk := make_bools n (by have := HN.out; omega)
        go_upto_region 17 with fail
        refine name_world (C := fun w4 => Code.wp _ _ _ _ w4) (wO.alloc (.cells (rowB (n + 1) (fun _ => false)).toArray 4)) ?_
        intro w4 hw4
        have hb4 : Below wO.heap.size wO w4 := by rw [hw4]; exact S2.below_new wO _
        have T_w4 : Hid (BK 4 w4 wO.heap.size (rowB (n + 1) (fun j => decide (j ∈ a.take 0)))) := Lib.hid (by rw [hw4]; simp only [List.take_zero, List.not_mem_nil, decide_false]; exact BK.new wO _ _)
        have C_w4 := Lib.hid hb4
        obtain ⟨gB, hgB⟩ : ∃ gB, gB = wO.heap.size := ⟨_, rfl⟩
        have HGB := Lib.hid hgB
        rw [← hgB] at T_w4 ⊢
        clear hw4 hb4 hgB hmk QC
        go_wp2_with fail
        go_loopg [16] ny (fun g v wx => ∃ (k : Nat), k + g = ny ∧ v = .int .i64 k ∧ BK 4 wx gB (rowB (n + 1) (fun j => decide (j ∈ a.take k))) ∧ Below wO.heap.size wO wx)
        case atStart => exact ⟨0, by omega, rfl, T_w4.out, C_w4.out⟩
        case round =>
          obtain ⟨k, hkg, rfl, hbk, hb5⟩ := hrel
          have T_x := Lib.hid hbk
          have C_x := Lib.hid hb5
          have HK := Lib.hid hkg
          clear hbk hb5 T_w4 C_w4
          cases gk with
          | succ gk =>
            have hlt : k < ny := by omega
            have e3 : decide ((k : Int) < (ny : Int)) = true := decide_eq_true (by omega)
            obtain ⟨s, hs⟩ : ∃ s, a[k]? = some s := ⟨_, List.getElem?_eq_getElem (by have := HLN.out; omega)⟩
            obtain ⟨b, o, hA, hb, d7⟩ := seq_at HY.out.1 (M_wr.out.step C_x.out) hs
            have hsr := HOR.out.ra s (List.mem_of_getElem? hs)
            have p2 : decide ((s : Int) < 1) = false := decide_eq_false (by omega)
            have p2' : decide (s < 1) = false := decide_eq_false (by omega)
            have p2'' : decide (s = 0) = false := decide_eq_false (by omega)
            have p3 : decide ((n : Int) < (s : Int)) = false := decide_eq_false (by omega)
            have p3' : decide (n < s) = false := decide_eq_false (by omega)
            have j1 : (0 : Int) ≤ (k : Int) := by omega
            have j2 : (k : Int) < (ny : Int) := by omega
            have j3 : (0 : Int) ≤ (s : Int) := by omega
            have j4 : (s : Int) < (n : Int) + 1 := by omega
            have j5 : s < n + 1 := by omega
            have hn1 := HN.out
            have hs0 := T_x.out.cell s (rowB_at j5)
            have f0 := T_x.out.free s
            have g0 := T_x.out.lt
            have HSS := Lib.hid hs
            by_cases hk0 : k = 0
            case pos =>
              have z1 : decide ((0 : Int) < (k : Int)) = false := decide_eq_false (by omega)
              have z2 : decide (0 < k) = false := decide_eq_false (by omega)
              have z3 : (k == 0) = true := by simp [hk0]
              subst hA
              clear hs hkg hk0 hb
              go_wp2_with fail
              go_quiet (fail)
              go_wp2_with fail
              go_roundg gk
              case measure => omega
              case rel => exact ⟨k + 1, by have := HK.out; omega, by go_num, bk_setD T_x.out (rowB_set (G := fun j => decide (j ∈ a.take (k + 1))) (fun j => by rw [List.take_add_one, HSS.out]; simp [Bool.or_comm])), (stepB C_x.out (below_drewN _ _)).setCell (p := ⟨gB, s, none⟩) (by show _ ≤ gB; rw [HGB.out]; exact Nat.le_refl _) _⟩
            obtain ⟨j, hj⟩ : ∃ j, k = j + 1 := ⟨k - 1, by omega⟩
            obtain ⟨s', hs'⟩ : ∃ s', a[j]? = some s' := ⟨_, List.getElem?_eq_getElem (by have := HLN.out; omega)⟩
            obtain ⟨b2, o2, hA2, _, d8⟩ := seq_at HY.out.1 (M_wr.out.step C_x.out) hs'
            rw [hA] at hA2
            simp only [Option.some.injEq, Addr.mk.injEq, and_true] at hA2
            obtain ⟨rfl, rfl⟩ := hA2
            have hlt2 : s' < s := by
              obtain ⟨hk1, e1⟩ := List.getElem?_eq_some_iff.1 hs
              obtain ⟨hk2, e2⟩ := List.getElem?_eq_some_iff.1 hs'
              rw [← e1, ← e2]
              exact List.pairwise_iff_getElem.1 HOR.out.asc j k hk2 hk1 (by omega)
            have z1 : decide ((0 : Int) < (k : Int)) = true := decide_eq_true (by omega)
            have z2 : decide (0 < k) = true := decide_eq_true (by omega)
            have z3 : (k : Int) - 1 = (j : Int) := by omega
            have p1 : decide ((s : Int) ≤ (s' : Int)) = false := decide_eq_false (by omega)
            have p1' : decide (s ≤ s') = false := decide_eq_false (by omega)
            have i1 : (0 : Int) ≤ (j : Int) := by omega
            have i2 : (j : Int) < (ny : Int) := by omega
            have hjk : j ≤ 100 := by omega
            have hkk : k ≤ 100 := by omega
            subst hA
            clear hs hs' hkg hk0 hb hj hlt2
            go_wp2_with fail
            go_quiet (fail)
            go_wp2_with fail
            go_roundg gk
            case measure => omega
            case rel => exact ⟨k + 1, by have := HK.out; omega, by go_num, bk_setD T_x.out (rowB_set (G := fun j => decide (j ∈ a.take (k + 1))) (fun j => by rw [List.take_add_one, HSS.out]; simp [Bool.or_comm])), (stepB C_x.out (below_drewN _ _)).setCell (p := ⟨gB, s, none⟩) (by show _ ≤ gB; rw [HGB.out]; exact Nat.le_refl _) _⟩
          | zero =>
            have hkny : k = ny := by omega
            have e3 : decide ((k : Int) < (ny : Int)) = false := decide_eq_false (by omega)
            have T_y : Hid (BK 4 wr gB (rowB (n + 1) (fun j => decide (j ∈ a) || decide (j ∈ d.take 0)))) := Lib.hid (by
              have h := T_x.out
              rw [List.take_of_length_le (by have := HLN.out; omega)] at h
              simpa using h)
            have D_x := Lib.hid (D_wr.out.step C_x.out)
            clear hkg
            go_wp2_with fail
            go_loopg [17] nz (fun g v wx => ∃ (i : Nat), i + g = nz ∧ v = .int .i64 i ∧ BK 4 wx gB (rowB (n + 1) (fun j => decide (j ∈ a) || decide (j ∈ d.take i))) ∧ Below wO.heap.size wO wx)
            case atStart => exact ⟨0, by omega, rfl, T_y.out, C_x.out⟩
            case round =>
              obtain ⟨i, hkg, rfl, hbk, hb6⟩ := hrel
              have T_z := Lib.hid hbk
              have C_z := Lib.hid hb6
              have HI := Lib.hid hkg
              have DZ := Lib.hid (D_wr.out.step C_z.out)
              clear hbk hb6 T_x C_x T_y
              cases gk with
              | succ gk =>
                have hlt : i < nz := by omega
                have e3 : decide ((i : Int) < (nz : Int)) = true := decide_eq_true (by omega)
                obtain ⟨s, hs⟩ : ∃ s, d[i]? = some s := ⟨_, List.getElem?_eq_getElem (by have := HLN.out; omega)⟩
                obtain ⟨b, o, hA, hb, d7⟩ := seq_at HZ.out DZ.out hs
                have hsr := HOR.out.rd s (List.mem_of_getElem? hs)
                have p2 : decide ((s : Int) < 1) = false := decide_eq_false (by omega)
                have p2' : decide (s < 1) = false := decide_eq_false (by omega)
                have p2'' : decide (s = 0) = false := decide_eq_false (by omega)
                have p3 : decide ((n : Int) < (s : Int)) = false := decide_eq_false (by omega)
                have p3' : decide (n < s) = false := decide_eq_false (by omega)
                have j1 : (0 : Int) ≤ (i : Int) := by omega
                have j2 : (i : Int) < (nz : Int) := by omega
                have j3 : (0 : Int) ≤ (s : Int) := by omega
                have j4 : (s : Int) < (n : Int) + 1 := by omega
                have j5 : s < n + 1 := by omega
                have hn1 := HN.out
                have hik : i ≤ 100 := by omega
                have hfs : (decide (s ∈ a) || decide (s ∈ d.take i)) = false := by
                  rw [decide_eq_false (HOR.out.dis s (List.mem_of_getElem? hs)), Bool.false_or]
                  refine decide_eq_false (fun hm => ?_)
                  obtain ⟨q, hq⟩ := List.mem_iff_getElem?.1 hm
                  rw [List.getElem?_take] at hq
                  split at hq
                  · next hqi =>
                    obtain ⟨h1, e1⟩ := List.getElem?_eq_some_iff.1 hq
                    obtain ⟨h2, e2⟩ := List.getElem?_eq_some_iff.1 hs
                    exact absurd (e1.trans e2.symm) (List.pairwise_iff_getElem.1 HOR.out.nd q i h1 h2 (by omega))
                  · cases hq
                have hs0 : wr.cell? ⟨gB, s, none⟩ = some (.bool false) := by have h := T_z.out.cell s (rowB_at j5); rwa [hfs] at h
                have f0 := T_z.out.free s
                have g0 := T_z.out.lt
                have HSS := Lib.hid hs
                subst hA
                clear hs hkg hb hfs
                go_wp2_with fail
                go_roundg gk
                case measure => omega
                case rel => exact ⟨i + 1, by have := HI.out; omega, by go_num, (by
                  have h := T_z.out.set s (.bool true)
                  rwa [rowB_set (G := fun j => decide (j ∈ a) || decide (j ∈ d.take (i + 1))) (fun j => by rw [List.take_add_one, HSS.out]; simp [Bool.or_comm, Bool.or_left_comm])] at h), C_z.out.setCell (p := ⟨gB, s, none⟩) (by show _ ≤ gB; rw [HGB.out]; exact Nat.le_refl _) _⟩
              | zero =>
                have hinz : i = nz := by omega
                have B_n : Hid (Below w.heap.size w wr) := Lib.hid (stepB (stepB B_w1.out B_wr.out) C_z.out)
                have Y_n := Lib.hid (M_wr.out.step C_z.out)
                have L_n : Hid (MI wr wr.heap.size A1 (numL n)) := Lib.hid (L_w1.out.step (stepB B_wr.out C_z.out))
                have S_n : Hid (S2.IL wr wr.heap.size A2 P) := Lib.hid (CL.step HS.out B_n.out)
                have e9 : decide ((i : Int) < (nz : Int)) = false := decide_eq_false (by omega)
                clear hkg T_z DZ
                by_cases hP1 : P.length = 1
                case neg =>
                  have r1 : ((P.length : Int) != 1) = true := by simp; omega
                  have r1' : (P.length != 1) = true := by simp; omega
                  go_wp2_with fail
                  refine (awake17_any _).mono ?_
                  rintro e w7 ⟨rfl, hb⟩
                  have B_7 := Lib.hid (stepB B_n.out hb)
                  clear hb
                  go_wp2
                  go_ret
                  exact ⟨rfl, B_7.out⟩
                have r1 : ((P.length : Int) != 1) = false := by simp; omega
                have r1' : (P.length != 1) = false := by simp; omega
                obtain ⟨pv, hpv⟩ : ∃ v, P[0]? = some v := ⟨_, List.getElem?_eq_getElem (by omega)⟩
                have hpA : polA P 0 = pv := by unfold polA; rw [if_pos (by omega), Nat.zero_mod, List.getD_eq_getElem?_getD, hpv]; rfl
                have HKE2 : Hid (1 ≤ mx → Kept mx pv n a) := Lib.hid (fun h => by have := HKE.out hP1 h; rwa [hpA] at this)
                obtain ⟨bp, op, hA2, _, hcp⟩ := S_n.out (by omega)
                have HCP : Hid (wr.cell? ⟨bp, op, none⟩ = some (.int .i64 pv)) := Lib.hid (hcp 0 _ hpv)
                obtain ⟨np, hnp⟩ : ∃ np, np = P.length := ⟨_, rfl⟩
                have hnp1 : np = 1 := by omega
                rw [← hnp] at r1 r1' ⊢
                subst hA2
                have n0 : (0 : Int) < (np : Int) := by omega
                have n1 : 0 < np := by omega
                have n2 : np ≠ 0 := by omega
                clear hpv hpA hcp hnp hnp1 S_n hP1
                by_cases hm1 : mx < 1
                case pos =>
                  have r2 : decide (mx < 1) = true := decide_eq_true hm1
                  go_wp2_with fail
                  refine (awake17_any _).mono ?_
                  rintro e w7 ⟨rfl, hb⟩
                  have B_7 := Lib.hid (stepB B_n.out hb)
                  clear hb
                  go_wp2
                  go_ret
                  exact ⟨rfl, B_7.out⟩
                have r2 : decide (mx < 1) = false := decide_eq_false hm1
                have HK9 := Lib.hid (HKE2.out (by omega))
                obtain ⟨K, rfl⟩ : ∃ K : Nat, mx = (K : Int) := ⟨mx.toNat, by omega⟩
                have hcc := HC1.out
                have hnn := HN.out
                by_cases hmn : n < K
                case pos =>
                  have v1 : decide ((n : Int) < (K : Int)) = true := decide_eq_true (by omega)
                  have v1' : decide (n < K) = true := decide_eq_true (by omega)
                  by_cases hp1 : pv = 1
                  case pos =>
                    have HFIN : Hid (∀ w1, Below wr.heap.size wr w1 → Calls Try.prog 13 #[.slice A ny c, .slice A1 n c1] w1 fun e w' => e = .returned (.bool true) ∧ Below w1.heap.size w1 w') := Lib.hid (fun w1 h => by
                      have h2 := same_true A c ys A1 c1 (numL n) w1 (a.map numM) HY.out.1 (by have := kept_drop HK9.out hp1 (lo := 0) (by simp; omega); rw [List.drop_zero] at this; exact this.symm) (Y_n.out.step h) (L_n.out.step h) (by rw [List.length_map]; have := HLN.out; omega) num_ok
                      rwa [← HY.out.2.2, numL_len] at h2)
                    have t1 : (pv == 1) = true := by simp [hp1]
                    have d1 := HCP.out
                    have u1 : (0 : Int) ≤ (n : Int) := by omega
                    have u2 : (n : Int) ≤ (c1 : Int) := by omega
                    have u3 : (0 : Int) ≤ (K : Int) := by omega




                    clear hp1
                    go_wp2_with fail
                    refine (awake17_any _).mono ?_
                    rintro e w7 ⟨rfl, hb⟩
                    have B_7 := Lib.hid (stepB B_n.out hb)
                    have CF := Lib.hid (HFIN.out w7 hb)
                    clear hb d1 HFIN
                    go_wp2_with fail
                    refine CF.out.mono ?_
                    rintro e w8 ⟨rfl, hb⟩
                    have B_8 := Lib.hid (stepB B_7.out hb)
                    clear hb
                    go_wp2
                    go_ret
                    exact ⟨rfl, B_8.out⟩
                  case neg =>
                    have HFIN : Hid (∀ w1, Below wr.heap.size wr w1 → Calls Try.prog 13 #[.slice A ny c, .slice A1 n c1] w1 fun e w' => e = .returned (.bool true) ∧ Below w1.heap.size w1 w') := Lib.hid (fun w1 h => by
                      have h2 := same_true A c ys A1 c1 ((numL n).take n) w1 (a.map numM) HY.out.1 (kept_take HK9.out hp1 (by simp; omega)).symm (Y_n.out.step h) (LI.take (L_n.out.step h) n) (by rw [List.length_map]; have := HLN.out; omega) num_ok
                      rwa [← HY.out.2.2, List.length_take, numL_len, Nat.min_eq_left (by omega)] at h2)
                    have t1 : (pv == 1) = false := by simp [hp1]
                    have d1 := HCP.out
                    have u1 : (0 : Int) ≤ (n : Int) := by omega
                    have u2 : (n : Int) ≤ (c1 : Int) := by omega
                    have u3 : (0 : Int) ≤ (K : Int) := by omega




                    clear hp1
                    go_wp2_with fail
                    refine (awake17_any _).mono ?_
                    rintro e w7 ⟨rfl, hb⟩
                    have B_7 := Lib.hid (stepB B_n.out hb)
                    have CF := Lib.hid (HFIN.out w7 hb)
                    clear hb d1 HFIN
                    go_wp2_with fail
                    refine CF.out.mono ?_
                    rintro e w8 ⟨rfl, hb⟩
                    have B_8 := Lib.hid (stepB B_7.out hb)
                    clear hb
                    go_wp2
                    go_ret
                    exact ⟨rfl, B_8.out⟩
                case neg =>
                  have v1 : decide ((n : Int) < (K : Int)) = false := decide_eq_false (by omega)
                  have v1' : decide (n < K) = false := decide_eq_false (by omega)
                  by_cases hp1 : pv = 1
                  case pos =>
                    obtain ⟨lo, hlo⟩ : ∃ lo, lo = n - min n K := ⟨_, rfl⟩
                    have hsub : (n : Int) - (K : Int) = (lo : Int) := by omega
                    have HFIN : Hid (∀ w1, Below wr.heap.size wr w1 → Calls Try.prog 13 #[.slice A ny c, .slice (A1.map (·.add (lo * 9))) (n - lo) (c1 - lo)] w1 fun e w' => e = .returned (.bool true) ∧ Below w1.heap.size w1 w') := Lib.hid (fun w1 h => by
                      have h2 := same_true A c ys (A1.map (·.add (lo * 9))) (c1 - lo) ((numL n).drop lo) w1 (a.map numM) HY.out.1 (kept_drop HK9.out hp1 (by simpa using hlo)).symm (Y_n.out.step h) (drop_far (L_n.out.step h) (by rw [numL_len]; omega) (by rw [numL_len]; exact hcc)) (by rw [List.length_map]; have := HLN.out; omega) num_ok
                      rwa [← HY.out.2.2, List.length_drop, numL_len] at h2)
                    have t1 : (pv == 1) = true := by simp [hp1]
                    have d1 := HCP.out
                    have u1 : (0 : Int) ≤ (n : Int) := by omega
                    have u2 : (n : Int) ≤ (c1 : Int) := by omega
                    have u3 : (0 : Int) ≤ (K : Int) := by omega
                    have u4 : (K : Int) ≤ (c1 : Int) := by omega
                    have u5 : (lo : Int) ≤ (n : Int) := by omega
                    have u6 : (0 : Int) ≤ (lo : Int) := by omega
                    have hk1 : K ≤ 100 := by omega
                    clear hp1 hlo
                    go_wp2_with fail
                    refine (awake17_any _).mono ?_
                    rintro e w7 ⟨rfl, hb⟩
                    have B_7 := Lib.hid (stepB B_n.out hb)
                    have CF := Lib.hid (HFIN.out w7 hb)
                    clear hb d1 HFIN
                    go_wp2_with fail
                    refine CF.out.mono ?_
                    rintro e w8 ⟨rfl, hb⟩
                    have B_8 := Lib.hid (stepB B_7.out hb)
                    clear hb
                    go_wp2
                    go_ret
                    exact ⟨rfl, B_8.out⟩
                  case neg =>
                    obtain ⟨lo, hlo⟩ : ∃ lo, lo = n - min n K := ⟨_, rfl⟩
                    have hsub : (n : Int) - (K : Int) = (lo : Int) := by omega
                    have HFIN : Hid (∀ w1, Below wr.heap.size wr w1 → Calls Try.prog 13 #[.slice A ny c, .slice A1 K c1] w1 fun e w' => e = .returned (.bool true) ∧ Below w1.heap.size w1 w') := Lib.hid (fun w1 h => by
                      have h2 := same_true A c ys A1 c1 ((numL n).take K) w1 (a.map numM) HY.out.1 (kept_take HK9.out hp1 (by simp; omega)).symm (Y_n.out.step h) (LI.take (L_n.out.step h) K) (by rw [List.length_map]; have := HLN.out; omega) num_ok
                      rwa [← HY.out.2.2, List.length_take, numL_len, Nat.min_eq_left (by omega)] at h2)
                    have t1 : (pv == 1) = false := by simp [hp1]
                    have d1 := HCP.out
                    have u1 : (0 : Int) ≤ (n : Int) := by omega
                    have u2 : (n : Int) ≤ (c1 : Int) := by omega
                    have u3 : (0 : Int) ≤ (K : Int) := by omega
                    have u4 : (K : Int) ≤ (c1 : Int) := by omega
                    have u5 : (lo : Int) ≤ (n : Int) := by omega
                    have u6 : (0 : Int) ≤ (lo : Int) := by omega
                    have hk1 : K ≤ 100 := by omega
                    clear hp1 hlo
                    go_wp2_with fail
                    refine (awake17_any _).mono ?_
                    rintro e w7 ⟨rfl, hb⟩
                    have B_7 := Lib.hid (stepB B_n.out hb)
                    have CF := Lib.hid (HFIN.out w7 hb)
                    clear hb d1 HFIN
                    go_wp2_with fail
                    refine CF.out.mono ?_
                    rintro e w8 ⟨rfl, hb⟩
                    have B_8 := Lib.hid (stepB B_7.out hb)
                    clear hb
                    go_wp2
                    go_ret
                    exact ⟨rfl, B_8.out⟩
end Go.Proofs.Ytgnbiicfabldbab
