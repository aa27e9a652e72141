/-
The examples that every statement of brokerlaw07 holds besides: awake answers true. Conditions: the tables read as the program's text lays them.
-/
import Derived.Test.YtdkegoaflabjoaaGreatDoorWa
import Derived.Test.YtdkegoaflabjoaaGreatDoorWb
import Derived.Test.YtdkegoaflabjoaaGreatDoorSamR
import Derived.Lib.SlBytesConst
set_option maxHeartbeats 16000000
set_option maxRecDepth 50000
namespace Go.Proofs.YtdkegoaflabjoaaGreatDoor
open Go.RowKit

def exS : Pkt := { Pkt.zero with kind := 8, id := 1, subs := [(⟨#[97, 47, 35]⟩, (2, false))] }
theorem ck_ack : checkP (plainP 4 1) = 0 := by rw [plain_check (by decide)]; decide
theorem ck_ping : checkP (plainP 12 0) = 0 := by
 have h : plainP 12 0 = usedP (plainP 12 0) := by simp [plainP, usedP, Pkt.zero]
 unfold checkP
 rw [if_neg (by show ¬ ((12 : Int) < 1 ∨ (14 : Int) < 12); omega), if_neg (by rw [Decidable.not_not]; exact h)]
 rfl
theorem ck_sub : checkP exS = 0 := by
 have h : exS = usedP exS := by simp [exS, usedP, Pkt.zero]
 unfold checkP
 rw [if_neg (by show ¬ ((8 : Int) < 1 ∨ (14 : Int) < 8); omega), if_neg (by rw [Decidable.not_not]; exact h)]
 decide +kernel
theorem ex_enc : encodeR (plainP 4 1) = ([8, 2], 0) := by
 have e : encPk (plainP 4 1) = [8, 2] := by decide +kernel
 unfold encodeR
 rw [if_neg (by rw [ck_ack]; decide), e]
theorem ex_dec : decodeR [16, 2, 2, 6, 97, 47, 35, 4, 0] = (exS, 0) := by
 have e : encPk exS = [16, 2, 2, 6, 97, 47, 35, 4, 0] := by decide +kernel
 rw [← e]
 exact decodeR_enc ck_sub
theorem two_pings : ∀ p ∈ [plainP 12 0, plainP 12 0], checkP p = 0 := by
 intro p hp
 simp at hp
 subst hp
 exact ck_ping
theorem enc_pings : encG encB [plainP 12 0, plainP 12 0] = [2, 24, 2, 24] := by decide +kernel
theorem ex_encs : encAllR [plainP 12 0, plainP 12 0] = ([2, 24, 2, 24], 0) := by rw [encAllR_good two_pings, enc_pings]
theorem ex_decs : decAllR [2, 24, 2, 24] = ([plainP 12 0, plainP 12 0], 0) := by
 have := decAllR_enc two_pings
 rw [enc_pings] at this
 exact this
theorem pin_z {w : World} {p : Pkt} {a : PA} (h1 : p.msg.props = []) (h2 : p.wmsg.props = []) (h3 : p.subs = []) (h4 : p.filters = []) (h5 : p.codes = []) : PIn w p a :=
 ⟨by rw [h1]; exact GL.nil _ _ _, by rw [h2]; exact GL.nil _ _ _, by rw [h3]; exact GL.nil _ _ _, by rw [h4]; exact CL.nil _ _ _, by rw [h5]; exact CL.nil _ _ _⟩
theorem e7_1 (w : World) (hw : S1.Okw w) : Calls Tryz.prog 7 #[.agg (pkC (plainP 4 1) PA.zero).toArray] w fun e w' => ∃ A c, e = .returned (.tuple #[.slice A 2 c, .int .i64 0]) ∧ CL bv w' w'.heap.size A [8, 2] ∧ Below w.heap.size w w' :=
 (encode_any (plainP 4 1) PA.zero w hw (pin_z rfl rfl rfl rfl rfl) (sm0 (n := 0) rfl rfl rfl rfl rfl).sz ((sm0 (n := 0) rfl rfl rfl rfl rfl).tx (by decide))).mono fun e w' h => by
  rw [ex_enc] at h
  obtain ⟨A, c, rfl, h1, _, h3⟩ := h
  exact ⟨A, c, rfl, h1, h3⟩
theorem e7_2 (A : Option Addr) (c : Nat) (w : World) (hw : S1.Okw w) (h : CL bv w w.heap.size A [16, 2, 2, 6, 97, 47, 35, 4, 0]) (hc : 9 ≤ c) : Calls Tryz.prog 8 #[.slice A 9 c] w fun e w' => ∃ a, e = .returned (.tuple #[.agg (pkC exS a).toArray, .int .i64 0]) ∧ PInB w' w'.heap.size exS a ∧ Below w.heap.size w w' :=
 (decode_any A c [16, 2, 2, 6, 97, 47, 35, 4, 0] w hw h hc (by decide)).mono fun e w' h => by
  rw [ex_dec] at h
  obtain ⟨a, rfl, h1, h3⟩ := h
  exact ⟨a, rfl, h1.1, h3⟩
theorem e7_3 (A : Option Addr) (c : Nat) (w : World) (hw : S1.Okw w) (h : KL w w.heap.size A [(plainP 12 0, PA.zero), (plainP 12 0, PA.zero)]) : Calls Tryz.prog 10 #[.slice A 2 c] w fun e w' => ∃ A c, e = .returned (.tuple #[.slice A 4 c, .int .i64 0]) ∧ CL bv w' w'.heap.size A [2, 24, 2, 24] ∧ Below w.heap.size w w' :=
 (encodeAll_any A c [(plainP 12 0, PA.zero), (plainP 12 0, PA.zero)] w hw h (by decide) (fun x hx => by
   simp at hx
   subst hx
   exact ⟨(sm0 (n := 0) rfl rfl rfl rfl rfl).sz, (sm0 (n := 0) rfl rfl rfl rfl rfl).tx (by decide)⟩)).mono fun e w' h => by
   have e1 : List.map Prod.fst [(plainP 12 0, PA.zero), (plainP 12 0, PA.zero)] = [plainP 12 0, plainP 12 0] := rfl
   rw [e1, ex_encs] at h
   obtain ⟨A, c, rfl, h1, _, h3⟩ := h
   exact ⟨A, c, rfl, h1, h3⟩
theorem e7_4 (A : Option Addr) (c : Nat) (w : World) (hw : S1.Okw w) (h : CL bv w w.heap.size A [2, 24, 2, 24]) (hc : 4 ≤ c) : Calls Tryz.prog 11 #[.slice A 4 c] w fun e w' => ∃ A c, e = .returned (.tuple #[.slice A 2 c, .int .i64 0]) ∧ Below w.heap.size w w' :=
 (decodeAll_any A c [2, 24, 2, 24] w hw h hc (by decide)).mono fun e w' h => by
  rw [ex_decs] at h
  obtain ⟨A, c, xs, h0, rfl, _, _, h3⟩ := h
  have hl : xs.length = 2 := by have := congrArg List.length h0; simpa using this
  rw [hl]
  exact ⟨A, c, rfl, h3⟩
theorem ex_same : sameP exS exS = true := decide_eq_true rfl
theorem e7_5 (a b : PA) (w : World) (ha : PIn w exS a) (hb : PIn w exS b) : Calls Tryz.prog 9 #[.agg (pkC exS a).toArray, .agg (pkC exS b).toArray] w fun e w' => e = .returned (.bool true) ∧ Below w.heap.size w w' :=
 (rSameP_any exS exS a b w ha hb ⟨by decide, by decide, by decide, by decide, by decide⟩ ⟨by decide, by decide, by decide, by decide, by decide⟩).mono fun e w' h => by
  rw [ex_same] at h
  exact h
def pings : List (Pkt × PA) := [(plainP 12 0, PA.zero), (plainP 12 0, PA.zero)]
theorem fill_pings : Instr.fill (fun i => some (i * 34, 34)) (Array.map (fun x => (Value.agg (pkC Pkt.zero PA.zero).toArray).cells[x % (Value.agg (pkC Pkt.zero PA.zero).toArray).cells.size]!) (Array.range 68)) [(0, .agg (pkC (plainP 12 0) PA.zero).toArray), (1, .agg (pkC (plainP 12 0) PA.zero).toArray)] = some (pings.flatMap gK).toArray := by kernel_rfl
theorem bs_pings (w : World) : (Instr.buildSlice 22 2 #[(0, .agg (pkC (plainP 12 0) PA.zero).toArray), (1, .agg (pkC (plainP 12 0) PA.zero).toArray)]).run Tryz.prog w = .ok (.slice (some ⟨w.heap.size, 0, none⟩) 2 2) (w.alloc (.cells (pings.flatMap gK).toArray 38)) := by
 obtain ⟨i, hi, hz, hz1, hz2⟩ := info_parts infoPk
 have hf := fill_pings
 unfold Instr.buildSlice
 simp [run_underlying Tryz.underlying22, sizeOf, typeInfo, hi, hz1, zeroValue, hz]
 rw [hf]
 simp [go_sem]

theorem cl_const {w w2 : World} (xs : List UInt8) {t : TypeId} {fr : Nat × Nat} (h : w2 = w.alloc (.cells (xs.map bv).toArray t fr)) : CL bv w2 w2.heap.size (some ⟨w.heap.size, 0, none⟩) xs ∧ Below w.heap.size w w2 := by
 subst h
 refine ⟨fun _ => ⟨w.heap.size, 0, rfl, by simp, fun j x hx => ?_⟩, belA _ _⟩
 rw [cell_of_row _ w.heap.size (0 + j) (xs.map bv).toArray t fr (heap_alloc_new _ _), Nat.zero_add, List.getElem?_toArray, List.getElem?_map, hx]
 rfl
theorem bld12 (d : Option Nat) (ps : String) (af) (ev : Operand → Value) (hev : ev (.const (.int .i64 12)) = .int .i64 12) (w : World) : (execOp ev { dst := d, op := Op.build 38 #[(0, .const (.int .i64 12))], type := 38, pos := ps, after := af, guard := none }).run Tryz.prog w = .ok (.value (.agg (pkC (plainP 12 0) PA.zero).toArray)) w := by
 unfold execOp
 simp [go_sem, hev]
 rfl
theorem exec_bs2 {o : Oper} {ev : Operand → Value} {w : World} (x y : Operand) (ho : o.op = .buildSlice 22 2 #[(0, x), (1, y)]) (hx : ev x = .agg (pkC (plainP 12 0) PA.zero).toArray) (hy : ev y = .agg (pkC (plainP 12 0) PA.zero).toArray) : (execOp ev o).run Tryz.prog w = .ok (.value (.slice (some ⟨w.heap.size, 0, none⟩) 2 2)) (w.alloc (.cells (pings.flatMap gK).toArray 38)) := by
 have h := bs_pings w
 unfold execOp
 simp only [ho, List.map_toArray, List.map_cons, List.map_nil, hx, hy, Sem.run_bind, h, Sem.run_pure, Result.andThen_ok]
theorem kl_pings (w : World) : KL (w.alloc (.cells (pings.flatMap gK).toArray 38)) (w.alloc (.cells (pings.flatMap gK).toArray 38)).heap.size (some ⟨w.heap.size, 0, none⟩) [(plainP 12 0, PA.zero), (plainP 12 0, PA.zero)] :=
 ⟨GL.new (xs := pings) gK_len, fun x hx => by
   simp at hx
   subst hx
   exact ⟨GL.nil _ _ _, GL.nil _ _ _, GL.nil _ _ _, CL.nil _ _ _, CL.nil _ _ _⟩⟩

theorem awake7_any (w : World) (hw : S1.Okw w) : Calls Tryz.prog 6 #[] w fun e w' => e = .returned (.bool true) ∧ Below w.heap.size w w' := by
 have HO := Lib.hid hw
 clear hw
 go_enter Tryz.func6, Tryz.ntmps6
 go_wp2_with fail
 refine (e7_1 w HO.out).mono ?_
 rintro e w1 ⟨A1, c1, rfl, hs1, hb1⟩
 have HS1 := Lib.hid hs1
 have HB1 := Lib.hid hb1
 clear hs1 hb1
 have q2 := Lib.run_convert_bytes_const (P := Tryz.prog) w1 25 5 #[.int .u8 16, .int .u8 2, .int .u8 2, .int .u8 6, .int .u8 97, .int .u8 47, .int .u8 35, .int .u8 4, .int .u8 0] 9 9 Tryz.underlying25 Tryz.underlying5
 go_wp2_with fail
 clear q2
 refine name_world (C := fun W => Calls _ _ _ W _) _ ?_
 rintro w2 hw2
 obtain ⟨hs2, hb2⟩ := cl_const [16, 2, 2, 6, 97, 47, 35, 4, 0] hw2
 have HS2 := Lib.hid hs2
 have HSa2 := Lib.hid (HS1.out.step hb2)
 have HB2 := Lib.hid (stepB HB1.out hb2)
 clear hs2 hb2 hw2 HS1 HB1
 refine (e7_2 _ _ w2 (HO.out.step HB2.out) HS2.out (by decide)).mono ?_
 rintro e w3 ⟨a3, rfl, hp3, hb3⟩
 have HP3 := Lib.hid hp3
 have HSa3 := Lib.hid (HSa2.out.step hb3)
 have HB3 := Lib.hid (stepB HB2.out hb3)
 clear hp3 hb3 HS2 HSa2 HB2
 go_upto_region 3 with (refine wpList_store_blkE (by rfl) 38 (.tmp 3) (.tmp 18) rfl rfl w3.heap.size 0 34 rfl (.agg (pkC exS a3).toArray) rfl 38 (pkC Pkt.zero PA.zero) (pkC exS a3) (zero_new w3) rfl rfl info33 (by rw [pkC_len]; decide) (one_cells rfl) ?_; rintro w4 hM he hbel hsz; have HM4 := Lib.hid (put_pk hM); have HB4x : Hid (Below w3.heap.size w3 w4) := Lib.hid (hbel _ _ (Nat.le_refl _) (belA _ _)); clear hM he hbel hsz)
 have HSa4 := Lib.hid (HSa3.out.step HB4x.out)
 have HB4 := Lib.hid (stepB HB3.out HB4x.out)
 have HP4 : Hid (PInB w4 w4.heap.size exS a3) := Lib.hid ((HP3.out.below HB4x.out).more HB4x.out.size)
 clear HP3 HSa3 HB3 HB4x
 refine wp_region_list ?_
 refine wpList_val (by rfl) (.agg (pkC (plainP 12 0) PA.zero).toArray) (bld12 _ _ _ _ rfl _) ?_
 refine wpList_val (by rfl) (.agg (pkC (plainP 12 0) PA.zero).toArray) (bld12 _ _ _ _ rfl _) ?_
 refine wpList_valW (by rfl) _ (exec_bs2 (.tmp 21) (.tmp 22) rfl rfl rfl) ?_
 have hk5 := kl_pings w4
 have hb5 : Below w4.heap.size w4 (w4.alloc (.cells (pings.flatMap gK).toArray 38)) := belA _ _
 generalize w4.alloc (.cells (pings.flatMap gK).toArray 38) = w5 at hk5 hb5 ⊢
 have HK5 := Lib.hid hk5
 have HM5 := Lib.hid (MT.step HM4.out hb5)
 have HSa5 := Lib.hid (HSa4.out.step hb5)
 have HB5 := Lib.hid (stepB HB4.out hb5)
 have HP5 : Hid (PInB w5 w5.heap.size exS a3) := Lib.hid ((HP4.out.below hb5).more hb5.size)
 clear hk5 hb5 HM4 HSa4 HB4 HP4
 go_wp2_with fail
 refine (e7_3 _ _ w5 (HO.out.step HB5.out) HK5.out).mono ?_
 rintro e w6 ⟨A6, c6, rfl, hs6, hb6⟩
 have HS6 := Lib.hid hs6
 have HM6 := Lib.hid (MT.step HM5.out hb6)
 have HSa6 := Lib.hid (HSa5.out.step hb6)
 have HB6 := Lib.hid (stepB HB5.out hb6)
 have HP6 : Hid (PInB w6 w6.heap.size exS a3) := Lib.hid ((HP5.out.below hb6).more hb6.size)
 clear hs6 hb6 HM5 HSa5 HB5 HP5 HK5
 have q2 := Lib.run_convert_bytes_const (P := Tryz.prog) w6 25 5 #[.int .u8 2, .int .u8 24, .int .u8 2, .int .u8 24] 4 4 Tryz.underlying25 Tryz.underlying5
 go_wp2_with fail
 clear q2
 refine name_world (C := fun W => Calls _ _ _ W _) _ ?_
 rintro w7 hw7
 obtain ⟨hs7, hb7⟩ := cl_const [2, 24, 2, 24] hw7
 have HS7 := Lib.hid hs7
 have HSb7 := Lib.hid (HS6.out.step hb7)
 have HM7 := Lib.hid (MT.step HM6.out hb7)
 have HSa7 := Lib.hid (HSa6.out.step hb7)
 have HB7 := Lib.hid (stepB HB6.out hb7)
 have HP7 : Hid (PInB w7 w7.heap.size exS a3) := Lib.hid ((HP6.out.below hb7).more hb7.size)
 clear hs7 hb7 hw7 HS6 HM6 HSa6 HB6 HP6
 refine (e7_4 _ _ w7 (HO.out.step HB7.out) HS7.out (by decide)).mono ?_
 rintro e w8 ⟨A8, c8, rfl, hb8⟩
 have HSb8 := Lib.hid (HSb7.out.step hb8)
 have HM8 := Lib.hid (MT.step HM7.out hb8)
 have HSa8 := Lib.hid (HSa7.out.step hb8)
 have HB8 := Lib.hid (stepB HB7.out hb8)
 have HP8 : Hid (PInB w8 w8.heap.size exS a3) := Lib.hid ((HP7.out.below hb8).more hb8.size)
 clear hb8 HS7 HSb7 HM7 HSa7 HB7 HP7
 have qa : (convert 25 9 (.slice A1 2 c1)).run Tryz.prog w8 = .ok (.string ⟨#[8, 2]⟩) w8 := conv_str (xs := [8, 2]) HSa8.out c1
 go_upto_region 5 with fail
 go_wp2_with (refine wpList_load_all (by rfl) 38 (.tmp 3) rfl w3.heap.size rfl 38 _ (0, 0) _ HM8.out Tryz.underlying38 rfl info33 ?_)
 have hb9 : Below w8.heap.size w8 (w8.alloc (.cells #[.string ⟨#[97, 47, 35]⟩, .int .i64 2, .bool false] 49)) := belA _ _
 have hp9 : PInB (w8.alloc (.cells #[.string ⟨#[97, 47, 35]⟩, .int .i64 2, .bool false] 49)) (w8.alloc (.cells #[.string ⟨#[97, 47, 35]⟩, .int .i64 2, .bool false] 49)).heap.size exS { PA.zero with s := some ⟨w8.heap.size, 0, none⟩, sc := 1 } :=
  ⟨GL.nil _ _ _, GL.nil _ _ _, GL.new (xs := [((⟨#[97, 47, 35]⟩ : ByteArray), ((2 : Int), false))]) gS_len, CL.nil _ _ _, CL.nil _ _ _⟩
 generalize w8.alloc (.cells #[.string ⟨#[97, 47, 35]⟩, .int .i64 2, .bool false] 49) = w9 at hb9 hp9 ⊢
 have HSb9 := Lib.hid (HSb8.out.step hb9)
 have HB9 := Lib.hid (stepB HB8.out hb9)
 have HP9 : Hid (PInB w9 w9.heap.size exS a3) := Lib.hid ((HP8.out.below hb9).more hb9.size)
 have HPN9 := Lib.hid hp9
 clear hb9 hp9 HSb8 HB8 HP8 HM8 HSa8 qa
 refine (e7_5 a3 { PA.zero with s := some ⟨w8.heap.size, 0, none⟩, sc := 1 } w9 HP9.out.pin HPN9.out.pin).mono ?_
 rintro e w10 ⟨rfl, hb10⟩
 have hs10 := HSb9.out.step hb10
 have qb : (convert 25 9 (.slice A6 4 c6)).run Tryz.prog w10 = .ok (.string ⟨#[2, 24, 2, 24]⟩) w10 := conv_str (xs := [2, 24, 2, 24]) hs10 c6
 have HB10 := Lib.hid (stepB HB9.out hb10)
 clear hb10 hs10 HSb9 HB9 HP9 HPN9
 go_wp2_with fail
 go_ret
 exact ⟨rfl, HB10.out⟩

end Go.Proofs.YtdkegoaflabjoaaGreatDoor
