/-
  Dead messages as plain data: the number of deaths that a text spells, the queue and the reason, the properties with a mark. No function of the program is walked here.
-/
import Derived.Test.YtjhojpghllnoiaaDoorSetP
import Derived.Lib.AtoiAllCases
import Derived.Lib.AtoiTie
import Derived.Lib.ItoaNum
import Derived.Lib.ItoaMem
namespace Go.Proofs.YtjhojpghllnoiaaDoor
open Go.RowKit

/-! ### Numerals -/
theorem decFrom_app : ∀ (l : List UInt8) (acc : Nat) (b : UInt8), Lib.decFrom acc (l ++ [b]) = (Lib.decFrom acc l).bind fun n => (Lib.digitVal b).map fun d => n * 10 + d
  | [], acc, b => by
    cases h : Lib.digitVal b <;> simp [Lib.decFrom, h]
  | a :: l, acc, b => by
    rw [List.cons_append]
    unfold Lib.decFrom
    cases h : Lib.digitVal a with
    | none => rfl
    | some d => exact decFrom_app l _ b
theorem digit_of (d : Nat) (h : d < 10) : Lib.digitVal (UInt8.ofNat (48 + d)) = some d := by
  have : (UInt8.ofNat (48 + d)).toNat = 48 + d := by rw [UInt8.toNat_ofNat']; omega
  unfold Lib.digitVal
  rw [this, if_pos (by omega)]
  congr 1
  omega
theorem dec_from (u : Nat) : Lib.decFrom 0 (Lib.decDigits u) = some u := by
  induction u using Nat.strongRecOn with
  | _ u ih =>
    rw [Lib.decDigits]
    by_cases h : u < 10
    · rw [dif_pos h]
      unfold Lib.decFrom
      rw [digit_of u h]
      simp [Lib.decFrom]
    · rw [dif_neg h, decFrom_app, ih (u / 10) (by omega), digit_of _ (by omega)]
      simp
      omega
theorem dec_ne (u : Nat) : Lib.decDigits u ≠ [] := fun h => by
  have h1 := Lib.decDigits_length u
  rw [h] at h1
  have := Lib.nDigits_pos u
  simp at h1
  omega
theorem dec_nat (u : Nat) : Lib.decNat (Lib.decDigits u) = some u := by
  unfold Lib.decNat
  rw [if_neg (by simp [dec_ne]), dec_from]
theorem nDig_le (k u : Nat) (h : u < 10 ^ (k + 1)) : Lib.nDigits u ≤ k + 1 := by
  induction k generalizing u with
  | zero => rw [Lib.nDigits_small (by simpa using h)]; omega
  | succ k ih =>
    by_cases h1 : u < 10
    · rw [Lib.nDigits_small h1]; omega
    · rw [Lib.nDigits_big h1]
      have := ih (u / 10) (by rw [Nat.pow_succ] at h; omega)
      omega
theorem dec_len {u : Nat} (h : u ≤ 1099511627776) : (Lib.decDigits u).length ≤ 13 := by
  rw [Lib.decDigits_length]
  exact nDig_le 12 u (by omega)
theorem dec_head (u : Nat) : ∀ (c : UInt8) (r : List UInt8), Lib.decDigits u = c :: r → c.toNat ≠ 43 ∧ c.toNat ≠ 45 := by
  intro c r h
  obtain ⟨d, hd⟩ := Lib.digit_of_decFrom _ _ _ (dec_from u) 0 c (by rw [h]; rfl)
  have := Lib.digitVal_eq hd
  omega
theorem atoi_dec {u : Nat} (h : u ≤ 1099511627776) : Lib.atoiAll (Lib.decDigits u) = .ok (u : Int) := by
  have hl := dec_len h
  have hn := dec_nat u
  rw [Lib.atoiAll_short _ (by omega)]
  cases hd : Lib.decDigits u with
  | nil => exact absurd hd (dec_ne u)
  | cons c r =>
    obtain ⟨h1, h2⟩ := dec_head u c r hd
    rw [hd] at hn
    unfold Lib.atoi
    have e1 : (c == 45) = false := beq_eq_false_iff_ne.2 fun e => h2 (by rw [e]; rfl)
    have e2 : (c == 43) = false := beq_eq_false_iff_ne.2 fun e => h1 (by rw [e]; rfl)
    simp only [e1, e2, hn]
    rfl

/-- the number of deaths that a text spells -/
def deathsT (s : ByteArray) : Nat := match Lib.decNat (dl s) with
  | some n => if Lib.decDigits n = dl s ∧ n ≤ 1099511627776 then n else 0
  | none => 0
theorem deathsT_le (s : ByteArray) : deathsT s ≤ 1099511627776 := by
  unfold deathsT
  split
  · split
    · rename_i h; exact h.2
    · omega
  · omega
theorem deathsT_of {s : ByteArray} {n : Nat} (h : Lib.decDigits n = dl s) (hn : n ≤ 1099511627776) : deathsT s = n := by
  unfold deathsT
  rw [← h, dec_nat]
  simp only
  rw [if_pos ⟨trivial, hn⟩]
theorem deathsT_no {s : ByteArray} (h : ∀ n, Lib.decDigits n = dl s → n ≤ 1099511627776 → n = 0) : deathsT s = 0 := by
  unfold deathsT
  split
  · split
    · rename_i h1; exact h _ h1.1 h1.2
    · rfl
  · rfl
/-- the text that Itoa writes -/
def numT (n : Nat) : ByteArray := ⟨(Lib.decDigits n).toArray⟩
theorem numT_dl (n : Nat) : dl (numT n) = Lib.decDigits n := by unfold numT dl; simp
theorem numT_deaths {n : Nat} (h : n ≤ 1099511627776) : deathsT (numT n) = n := deathsT_of (numT_dl n).symm h
theorem numT_size {n : Nat} (h : n ≤ 1099511627776) : (numT n).size ≤ 13 := by
  rw [size_dl, numT_dl]; exact dec_len h
/-- what the program's way through Atoi and Itoa says -/
theorem deaths_ok {s : ByteArray} {v : Int} (h : Lib.atoiAll (dl s) = .ok v) : (if (Lib.itoa v = dl s ∧ 0 ≤ v ∧ v ≤ 1099511627776) then v else 0) = ((deathsT s : Nat) : Int) := by
  by_cases hc : Lib.itoa v = dl s ∧ 0 ≤ v ∧ v ≤ 1099511627776
  · rw [if_pos hc]
    obtain ⟨n, rfl⟩ := Int.eq_ofNat_of_zero_le hc.2.1
    rw [Lib.itoa_nonneg] at hc
    rw [deathsT_of hc.1 (by omega)]
  · rw [if_neg hc, deathsT_no]
    · rfl
    · intro n h1 h2
      exfalso
      rw [← h1, atoi_dec h2] at h
      injection h with h
      subst h
      exact hc ⟨by rw [Lib.itoa_nonneg]; exact h1, by omega, by omega⟩
theorem deaths_bad {s : ByteArray} (h : ∀ v, Lib.atoiAll (dl s) ≠ .ok v) : deathsT s = 0 := deathsT_no fun n h1 h2 => by
  exfalso
  rw [← h1] at h
  exact h _ (atoi_dec h2)

/-! ### The reference's way: digit by digit -/
theorem deaths_len {s : ByteArray} (h : s.size < 1 ∨ 13 < s.size) : deathsT s = 0 := deathsT_no fun n h1 h2 => by
  exfalso
  have := dec_len h2
  have := Lib.nDigits_pos n
  rw [← Lib.decDigits_length, h1, ← size_dl] at this
  rw [h1, ← size_dl] at *
  omega
theorem deaths_char {s : ByteArray} {i : Nat} {c : UInt8} (hc : (dl s)[i]? = some c) (h : c.toNat < 48 ∨ 57 < c.toNat) : deathsT s = 0 := deathsT_no fun n h1 h2 => by
  exfalso
  obtain ⟨d, hd⟩ := Lib.digit_of_decFrom _ _ _ (dec_from n) i c (by rw [h1]; exact hc)
  have := Lib.digitVal_eq hd
  omega
/-- the digits up to i spell n -/
def Spell (s : ByteArray) (i n : Nat) : Prop := Lib.decFrom 0 ((dl s).take i) = some n ∧ n < 10 ^ i
theorem Spell.zero (s : ByteArray) : Spell s 0 0 := ⟨rfl, by decide⟩
theorem Spell.succ {s : ByteArray} {i n : Nat} {c : UInt8} (h : Spell s i n) (hc : (dl s)[i]? = some c) (h1 : 48 ≤ c.toNat) (h2 : c.toNat ≤ 57) : Spell s (i + 1) (10 * n + (c.toNat - 48)) := by
  have hd : Lib.digitVal c = some (c.toNat - 48) := by unfold Lib.digitVal; rw [if_pos ⟨h1, h2⟩]
  refine ⟨?_, ?_⟩
  · rw [Lib.decFrom_take _ _ _ _ _ _ h.1 hc hd, Nat.mul_comm]
  · have := h.2
    rw [Nat.pow_succ]
    omega
theorem Spell.lt {s : ByteArray} {i n : Nat} (h : Spell s i n) (hi : i ≤ 13) : n < 10000000000000 := Nat.lt_of_lt_of_le h.2 (Nat.le_trans (Nat.pow_le_pow_right (by decide) hi) (by decide))
theorem Spell.done {s : ByteArray} {n : Nat} (h : Spell s s.size n) (h1 : 1 ≤ s.size) : deathsT s = if Lib.decDigits n = dl s ∧ n ≤ 1099511627776 then n else 0 := by
  have e := h.1
  rw [size_dl, List.take_length] at e
  unfold deathsT Lib.decNat
  rw [if_neg (by rw [List.isEmpty_iff]; intro h0; rw [size_dl, h0] at h1; simp at h1), e]

/-! ### The queue and the reason -/
def befS (l : List UInt8) : List UInt8 := l.takeWhile fun c => decide (c ≠ 32)
def aftS (l : List UInt8) : List UInt8 := l.drop ((befS l).length + 1)
def fromOk (l : List UInt8) : Bool := S1.T.nameL (befS l) && (match aftS l with | [d] => decide (49 ≤ d.toNat) && decide (d.toNat ≤ 52) | _ => false)
def fromN (l : List UInt8) : Int := match aftS l with | [d] => (d.toNat : Int) - 48 | _ => 0
def fromT (s : ByteArray) : ByteArray × Int := if fromOk (dl s) = true then (⟨(befS (dl s)).toArray⟩, fromN (dl s)) else (⟨#[]⟩, 0)
def diedT (q : ByteArray) (r : Nat) : ByteArray := ⟨(dl q ++ [32] ++ [UInt8.ofNat (48 + r)]).toArray⟩
theorem diedT_dl (q : ByteArray) (r : Nat) : dl (diedT q r) = dl q ++ 32 :: [UInt8.ofNat (48 + r)] := by unfold diedT dl; simp
theorem befS_name {l r : List UInt8} (h : ∀ c ∈ l, c ≠ 32) : befS (l ++ 32 :: r) = l := by
  unfold befS
  rw [List.takeWhile_append_of_pos (fun c hc => by simpa using h c hc)]
  simp

/-! ### The marked properties -/
def kDeaths : ByteArray := ⟨#[100, 101, 97, 116, 104, 115]⟩
def kDied : ByteArray := ⟨#[100, 105, 101, 100]⟩
def otherP (x : PR) : Bool := decide (x.1 ≠ kDeaths) && decide (x.1 ≠ kDied)
def restP (l : List PR) : List PR := l.filter otherP
def keptP (l : List PR) : List PR := (restP l).take 6
def markP (l : List PR) (d q : ByteArray) : List PR := setL (setL (keptP l) kDeaths d) kDied q
theorem restP_pw {l : List PR} (h : PW l) : PW (restP l) := h.filter _
theorem keptP_pw {l : List PR} (h : PW l) : PW (keptP l) := (restP_pw h).sublist (List.take_sublist _ _)
theorem keptP_mem {l : List PR} {x : PR} (h : x ∈ keptP l) : x ∈ l ∧ x.1 ≠ kDeaths ∧ x.1 ≠ kDied := by
  have h1 := List.mem_filter.1 (List.mem_of_mem_take h)
  unfold otherP at h1
  simp only [Bool.and_eq_true, decide_eq_true_eq] at h1
  exact ⟨h1.1, h1.2.1, h1.2.2⟩
theorem keptP_len (l : List PR) : (keptP l).length ≤ 6 := by unfold keptP; rw [List.length_take]; omega
theorem not_found {l : List PR} {k : ByteArray} (h : ∀ x ∈ l, x.1 ≠ k) : foundK l k = false := by
  cases hf : foundK l k with
  | false => rfl
  | true =>
    obtain ⟨x, hx, he⟩ := foundK_some hf
    exact absurd he (h x (List.mem_of_getElem? hx))
theorem setL_pw {l : List PR} {key value : ByteArray} (h : PW l) : PW (setL l key value) := by
  unfold setL PW
  refine List.pairwise_append.2 ⟨List.pairwise_append.2 ⟨h.filter _, List.pairwise_singleton _ _, ?_⟩, h.filter _, ?_⟩
  · intro a ha b hb
    obtain rfl := List.mem_singleton.1 hb
    exact (List.mem_filter.1 ha).2
  · intro a ha b hb
    have h2 : ltS key b.1 = true := (List.mem_filter.1 hb).2
    rcases List.mem_append.1 ha with ha | ha
    · exact ltS_trans (by simpa using (List.mem_filter.1 ha).2) h2
    · obtain rfl := List.mem_singleton.1 ha
      exact h2
theorem setL_mem {l : List PR} {key value : ByteArray} {x : PR} (h : x ∈ setL l key value) : x ∈ l ∨ x = (key, value) := by
  unfold setL at h
  rcases List.mem_append.1 h with h | h
  · rcases List.mem_append.1 h with h | h
    · exact .inl (List.mem_filter.1 h).1
    · exact .inr (List.mem_singleton.1 h)
  · exact .inl (List.mem_filter.1 h).1
theorem setL_key (l : List PR) (key value : ByteArray) : (key, value) ∈ setL l key value := by unfold setL; simp
theorem setL_other {l : List PR} {key value : ByteArray} {x : PR} (hx : x ∈ l) (hne : x.1 ≠ key) : x ∈ setL l key value := by
  unfold setL
  cases h1 : ltS x.1 key with
  | true => exact List.mem_append_left _ (List.mem_append_left _ (List.mem_filter.2 ⟨hx, by simpa using h1⟩))
  | false =>
    cases h2 : ltS key x.1 with
    | true => exact List.mem_append_right _ (List.mem_filter.2 ⟨hx, by simpa using h2⟩)
    | false => exact absurd (ltS_total h1 h2) hne
theorem getR_uniq : ∀ {l : List PR} {x : PR}, PW l → x ∈ l → getR l x.1 = (x.2, true) := by
  intro l
  induction l with
  | nil => intro x _ h; cases h
  | cons y r ih =>
    intro x h hx
    obtain ⟨h1, h2⟩ := List.pairwise_cons.1 h
    rw [getR_cons]
    rcases List.mem_cons.1 hx with rfl | hx
    · rw [if_pos rfl]
    · rw [if_neg (ltS_ne (h1 x hx)), ih h2 hx]
/-- setting a key that isn't there -/
theorem setL_ins {l : List PR} {k v : ByteArray} (h : PW l) (hn : ∀ x ∈ l, x.1 ≠ k) : setL l k v = insP l (posK l k) (k, v) := setL_new h (not_found hn)
theorem setL_len {l : List PR} {k v : ByteArray} (h : PW l) (hn : ∀ x ∈ l, x.1 ≠ k) : (setL l k v).length = l.length + 1 := by
  rw [setL_ins h hn, ins_len _ _ _ (pos_parts k l h).2.2]
theorem setL_filter {l : List PR} {k v : ByteArray} (h : PW l) (hn : ∀ x ∈ l, x.1 ≠ k) (p : PR → Bool) (hp : p (k, v) = false) : (setL l k v).filter p = l.filter p := by
  rw [setL_ins h hn]
  unfold insP
  rw [List.filter_append, List.filter_append, List.filter_cons_of_neg (by rw [hp]; simp), List.filter_nil, List.append_nil, ← List.filter_append, List.take_append_drop]
theorem kDeaths_key : keyR kDeaths = true := by decide +kernel
theorem kDied_key : keyR kDied = true := by decide +kernel
theorem kNe : kDeaths ≠ kDied := by decide +kernel
theorem mark1_pw {l : List PR} {d : ByteArray} (h : PW l) : PW (setL (keptP l) kDeaths d) := setL_pw (keptP_pw h)
theorem markP_pw {l : List PR} {d q : ByteArray} (h : PW l) : PW (markP l d q) := setL_pw (mark1_pw h)
theorem mark1_ne {l : List PR} {d : ByteArray} : ∀ x ∈ setL (keptP l) kDeaths d, x.1 ≠ kDied := fun x hx => by
  rcases setL_mem hx with h | rfl
  · exact (keptP_mem h).2.2
  · exact kNe
theorem mark1_len {l : List PR} {d : ByteArray} (h : PW l) : (setL (keptP l) kDeaths d).length = (keptP l).length + 1 := setL_len (keptP_pw h) fun _ hx => (keptP_mem hx).2.1
theorem markP_len {l : List PR} {d q : ByteArray} (h : PW l) : (markP l d q).length = (keptP l).length + 2 := by
  unfold markP
  rw [setL_len (mark1_pw h) mark1_ne, mark1_len h]
theorem kept_ok {l : List PR} (h : propsR l = 0) : propsR (keptP l) = 0 := by
  obtain ⟨_, h2, h3⟩ := propsR_parts h
  exact propsR_ok (by have := keptP_len l; omega) (keptP_pw h2) fun x hx => h3 x (keptP_mem hx).1
theorem mark1_ok {l : List PR} {d : ByteArray} (h : propsR l = 0) (hd : d.size ≤ 160) : propsR (setL (keptP l) kDeaths d) = 0 := by
  obtain ⟨_, h2, h3⟩ := propsR_parts h
  refine propsR_ok (by rw [mark1_len h2]; have := keptP_len l; omega) (mark1_pw h2) fun x hx => ?_
  rcases setL_mem hx with h | rfl
  · exact h3 x (keptP_mem h).1
  · exact ⟨kDeaths_key, by show ¬ 160 < d.size; omega⟩
theorem markP_ok {l : List PR} {d q : ByteArray} (h : propsR l = 0) (hd : d.size ≤ 160) (hq : q.size ≤ 160) : propsR (markP l d q) = 0 := by
  obtain ⟨_, h2, h3⟩ := propsR_parts h
  obtain ⟨_, h5, h6⟩ := propsR_parts (mark1_ok h hd)
  refine propsR_ok (by rw [markP_len h2]; have := keptP_len l; omega) (markP_pw h2) fun x hx => ?_
  rcases setL_mem hx with h | rfl
  · exact h6 x h
  · exact ⟨kDied_key, by show ¬ 160 < q.size; omega⟩
theorem set1_eq {l : List PR} {d : ByteArray} (h : propsR l = 0) (hd : d.size ≤ 160) : setR (keptP l) kDeaths d = (setL (keptP l) kDeaths d, 0) := by
  unfold setR
  rw [if_neg (by rw [kept_ok h]; simp), if_neg (by rw [kDeaths_key]; simp), if_neg (by have := keptP_len l; omega)]
theorem set2_eq {l : List PR} {d q : ByteArray} (h : propsR l = 0) (hd : d.size ≤ 160) (hq : q.size ≤ 160) : setR (setL (keptP l) kDeaths d) kDied q = (markP l d q, 0) := by
  obtain ⟨_, h2, h3⟩ := propsR_parts h
  unfold setR
  rw [if_neg (by rw [mark1_ok h hd]; simp), if_neg (by rw [kDied_key]; simp), if_neg (by rw [mark1_len h2]; have := keptP_len l; omega)]
  rfl
theorem mark_deaths {l : List PR} {d q : ByteArray} (h : PW l) : getR (markP l d q) kDeaths = (d, true) :=
  getR_uniq (x := (kDeaths, d)) (markP_pw h) (setL_other (setL_key _ _ _) kNe)
theorem mark_died {l : List PR} {d q : ByteArray} (h : PW l) : getR (markP l d q) kDied = (q, true) := getR_uniq (x := (kDied, q)) (markP_pw h) (setL_key _ _ _)
theorem restP_kept (l : List PR) : restP (keptP l) = keptP l := List.filter_eq_self.2 fun _ hx => by
  obtain ⟨_, h1, h2⟩ := keptP_mem hx
  unfold otherP
  rw [decide_eq_true h1, decide_eq_true h2]; rfl
theorem restP_mark {l : List PR} {d q : ByteArray} (h : PW l) : restP (markP l d q) = keptP l := by
  unfold restP markP
  rw [setL_filter (mark1_pw h) mark1_ne _ (by unfold otherP; simp), setL_filter (keptP_pw h) (fun x hx => (keptP_mem hx).2.1) _ (by unfold otherP; simp)]
  exact restP_kept l
theorem keptP_mark {l : List PR} {d q : ByteArray} (h : PW l) : keptP (markP l d q) = keptP l := by
  show (restP (markP l d q)).take 6 = keptP l
  rw [restP_mark h, List.take_of_length_le (keptP_len l)]

/-! ### Marked messages -/
def deathsM (m : Msg) : Nat := deathsT (getR m.props kDeaths).1
def nextD (m : Msg) : Nat := min (deathsM m + 1) 1099511627776
def againM (m : Msg) : Bool := decide (deathsM m < 8)
def markR (q : ByteArray) (m : Msg) (r : Nat) : Msg := { m with exps := 0, props := markP m.props (numT (nextD m)) (diedT q r) }
theorem nextD_le (m : Msg) : nextD m ≤ 1099511627776 := by unfold nextD; omega
theorem nextD_size (m : Msg) : (numT (nextD m)).size ≤ 160 := Nat.le_trans (numT_size (nextD_le m)) (by decide)
theorem name_len {q : ByteArray} (h : nameR q = true) : q.size ≤ 16 := by
  rcases Nat.lt_or_ge 16 q.size with h16 | h16
  · unfold nameR at h
    rw [S1.T.nameL_size (.inr (by rw [← Lib.size_eq]; exact h16))] at h
    cases h
  · exact h16
theorem diedT_size {q : ByteArray} {r : Nat} (h : nameR q = true) : (diedT q r).size ≤ 160 := by
  rw [size_dl, diedT_dl]
  have := name_len h
  rw [size_dl] at this
  simp
  omega
theorem checkR_parts {m : Msg} (h : checkR m = 0) : propsR m.props = 0 := by
  unfold checkR at h
  split at h
  · cases h
  split at h
  · cases h
  split at h
  · cases h
  split at h
  · cases h
  split at h
  · cases h
  split at h
  · cases h
  exact h
theorem markR_ok {m : Msg} {q : ByteArray} {r : Nat} (h : checkR m = 0) (hq : nameR q = true) : checkR (markR q m r) = 0 := by
  have hp := checkR_parts h
  have hm := markP_ok hp (nextD_size m) (diedT_size (r := r) hq)
  unfold checkR at h ⊢
  unfold markR
  simp only
  split at h
  · cases h
  rename_i h1
  rw [if_neg h1]
  split at h
  · cases h
  rename_i h2
  rw [if_neg h2]
  split at h
  · cases h
  rename_i h3
  rw [if_neg h3]
  split at h
  · cases h
  rename_i h4
  rw [if_neg (by omega)]
  split at h
  · cases h
  rename_i h5
  rw [if_neg h5]
  split at h
  · cases h
  rename_i h6
  rw [if_neg h6]
  exact hm
theorem deaths_mark {m : Msg} {q : ByteArray} {r : Nat} (h : checkR m = 0) : deathsM (markR q m r) = nextD m := by
  obtain ⟨_, h2, _⟩ := propsR_parts (checkR_parts h)
  show deathsT (getR (markP m.props (numT (nextD m)) (diedT q r)) kDeaths).1 = _
  rw [mark_deaths h2]
  exact numT_deaths (nextD_le m)

end Go.Proofs.YtjhojpghllnoiaaDoor
