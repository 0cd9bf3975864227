/-
  The encoding of numbers and byte strings as plain functions on lists of bytes, and what holds of them. No program is named here.
-/
import Derived.Lib.BitFns
import Derived.Lib.ItoaNum
namespace Go.Proofs.Ytgokhagbknlfaaa.Pk

/-- How many bytes a number has. -/
def sz (u : Nat) : Nat := (Lib.bitLen u + 7) / 8

/-- Its byte number t, from the lowest on. -/
def dig (u t : Nat) : Int := ((u / 256 ^ t % 256 : Nat) : Int)

/-- Its bytes, the highest first. -/
def be (u : Nat) : List Int := (List.range (sz u)).map fun j => dig u (sz u - 1 - j)

/-- The head byte. -/
def hd (n : Int) : Int := (sz n.natAbs : Int) + if n < 0 then 16 else 0

def enc (n : Int) : List Int := hd n :: be n.natAbs

def encB (x : List Int) : List Int := enc x.length ++ x

theorem bitLen_zero : Lib.bitLen 0 = 0 := by decide

theorem bitLen_bounds {u : Nat} (h : u < 2 ^ 64) (h0 : u ≠ 0) : 1 ≤ Lib.bitLen u ∧ 2 ^ (Lib.bitLen u - 1) ≤ u ∧ u < 2 ^ Lib.bitLen u := Lib.bitLenAux_bounds 64 u h h0

theorem sz_zero : sz 0 = 0 := by decide

theorem bitLen_le {u : Nat} (h : u < 2 ^ 64) : Lib.bitLen u ≤ 64 := by
  by_cases h0 : u = 0
  · subst h0; rw [bitLen_zero]; omega
  · have b := bitLen_bounds h h0
    by_cases hc : Lib.bitLen u ≤ 64
    · exact hc
    · have : 2 ^ 64 ≤ 2 ^ (Lib.bitLen u - 1) := Nat.pow_le_pow_right (by omega) (by omega)
      omega

theorem sz_le {u : Nat} (h : u < 2 ^ 64) : sz u ≤ 8 := by
  have := bitLen_le h
  unfold sz
  omega

theorem pow256 (k : Nat) : 256 ^ k = 2 ^ (8 * k) := by rw [Nat.pow_mul]

theorem lt_pow {u : Nat} (h : u < 2 ^ 64) : u < 256 ^ sz u := by
  by_cases h0 : u = 0
  · subst h0; rw [sz_zero]; omega
  · have b := bitLen_bounds h h0
    rw [pow256]
    exact Nat.lt_of_lt_of_le b.2.2 (Nat.pow_le_pow_right (by omega) (by unfold sz; omega))

theorem sz_pos {u : Nat} (h : u < 2 ^ 64) (h0 : u ≠ 0) : 1 ≤ sz u := by
  have b := bitLen_bounds h h0
  unfold sz
  omega

theorem pow_le {u : Nat} (h : u < 2 ^ 64) (h0 : u ≠ 0) : 256 ^ (sz u - 1) ≤ u := by
  have b := bitLen_bounds h h0
  rw [pow256]
  exact Nat.le_trans (Nat.pow_le_pow_right (by omega) (by unfold sz; omega)) b.2.1

/-- The size is the only number of bytes that fits. -/
theorem sz_of {u s : Nat} (hu : u < 2 ^ 64) (h1 : u < 256 ^ s) (h2 : s = 0 ∨ 256 ^ (s - 1) ≤ u) : sz u = s := by
  by_cases h0 : u = 0
  · subst h0
    rcases h2 with h2 | h2
    · rw [sz_zero, h2]
    · have := Nat.pow_pos (n := s - 1) (show 0 < 256 by omega)
      omega
  · have a := lt_pow hu
    have b := pow_le hu h0
    have c := sz_pos hu h0
    by_cases hlt : sz u < s
    · have hs : s ≠ 0 := by omega
      have h3 : 256 ^ (s - 1) ≤ u := h2.resolve_left hs
      have : 256 ^ sz u ≤ 256 ^ (s - 1) := Nat.pow_le_pow_right (by omega) (by omega)
      omega
    · by_cases hgt : s < sz u
      · have : 256 ^ s ≤ 256 ^ (sz u - 1) := Nat.pow_le_pow_right (by omega) (by omega)
        omega
      · omega

theorem dig_range (u t : Nat) : 0 ≤ dig u t ∧ dig u t < 256 := by unfold dig; omega

theorem dig_shift (u t : Nat) : (u : Int) / 2 ^ (8 * t) % 256 = dig u t := by
  unfold dig
  rw [pow256, Int.natCast_emod, Int.natCast_ediv, Int.natCast_pow]
  rfl

theorem be_length (u : Nat) : (be u).length = sz u := by simp [be]

theorem be_getD {u j : Nat} (h : j < sz u) : (be u).getD j 0 = dig u (sz u - 1 - j) := by
  simp [be, List.getD, h]

theorem be_range (u : Nat) : ∀ x ∈ be u, 0 ≤ x ∧ x < 256 := by
  intro x hx
  simp only [be, List.mem_map] at hx
  obtain ⟨j, _, rfl⟩ := hx
  exact dig_range _ _

theorem be_take {u k : Nat} (h : k < sz u) : (be u).take (k + 1) = (be u).take k ++ [dig u (sz u - 1 - k)] := by
  rw [List.take_succ_eq_append_getElem (by rw [be_length]; exact h)]
  simp [be]

theorem enc_length (n : Int) : (enc n).length = sz n.natAbs + 1 := by simp [enc, be_length]

theorem hd_range {n : Int} (h1 : -9223372036854775808 ≤ n) (h2 : n ≤ 9223372036854775807) : 0 ≤ hd n ∧ hd n ≤ 24 := by
  have := sz_le (u := n.natAbs) (by omega)
  unfold hd
  split <;> omega

theorem enc_range {n : Int} (h1 : -9223372036854775808 ≤ n) (h2 : n ≤ 9223372036854775807) : ∀ x ∈ enc n, 0 ≤ x ∧ x < 256 := by
  intro x hx
  simp only [enc, List.mem_cons] at hx
  rcases hx with rfl | hx
  · have := hd_range h1 h2; omega
  · exact be_range _ _ hx

/-- What bytes say. -/
def val (l : List Int) : Nat := l.foldl (fun a x => a * 256 + x.toNat) 0

theorem val_snoc (l : List Int) (x : Int) : val (l ++ [x]) = val l * 256 + x.toNat := by simp [val]

theorem val_nil : val [] = 0 := rfl

def vf (a : Nat) (x : Int) : Nat := a * 256 + x.toNat

theorem val_def (l : List Int) : val l = l.foldl vf 0 := rfl

theorem fold_val : ∀ (l : List Int) (a : Nat), l.foldl vf a = a * 256 ^ l.length + val l
  | [], a => by simp [val]
  | x :: l, a => by
    have h := fold_val l (vf a x)
    have h0 := fold_val l (vf 0 x)
    have e : val (x :: l) = l.foldl vf (vf 0 x) := rfl
    rw [List.foldl_cons, h, e, h0]
    simp only [vf, List.length_cons, Nat.pow_succ, Nat.zero_mul, Nat.zero_add]
    rw [Nat.add_mul, Nat.mul_assoc, Nat.mul_comm 256, Nat.add_assoc]

theorem val_append (a b : List Int) : val (a ++ b) = val a * 256 ^ b.length + val b := by
  rw [val_def, List.foldl_append, fold_val, ← val_def]

theorem val_cons (x : Int) (l : List Int) : val (x :: l) = x.toNat * 256 ^ l.length + val l := by
  have : val [x] = x.toNat := by simp [val]
  rw [← List.singleton_append, val_append, this]

theorem val_lt : ∀ {l : List Int}, (∀ x ∈ l, 0 ≤ x ∧ x < 256) → val l < 256 ^ l.length
  | [], _ => by simp [val]
  | x :: l, h => by
    have ih := val_lt (l := l) fun y hy => h y (by simp [hy])
    have hx := h x (by simp)
    rw [val_cons, List.length_cons, Nat.pow_succ, Nat.mul_comm (256 ^ l.length)]
    have : x.toNat + 1 ≤ 256 := by omega
    have := Nat.mul_le_mul_right (256 ^ l.length) this
    rw [Nat.add_mul] at this
    omega

theorem val_take_be {u : Nat} (h : u < 2 ^ 64) : ∀ k, k ≤ sz u → val ((be u).take k) = u / 256 ^ (sz u - k)
  | 0, _ => by
    have := lt_pow h
    rw [List.take_zero, Nat.sub_zero, Nat.div_eq_of_lt this]
    rfl
  | k + 1, hk => by
    have ih := val_take_be h k (by omega)
    rw [be_take (by omega), val_snoc, ih]
    have e : sz u - k = (sz u - 1 - k) + 1 := by omega
    have e2 : sz u - (k + 1) = sz u - 1 - k := by omega
    rw [e, e2, Nat.pow_succ, ← Nat.div_div_eq_div_mul]
    unfold dig
    omega

theorem val_be {u : Nat} (h : u < 2 ^ 64) : val (be u) = u := by
  have := val_take_be h (sz u) (Nat.le_refl _)
  rwa [Nat.sub_self, Nat.pow_zero, Nat.div_one, List.take_of_length_le (by rw [be_length]; exact Nat.le_refl _)] at this

theorem val_head_le {x : Int} {l : List Int} (h0 : 0 ≤ x) (h1 : x ≠ 0) : 256 ^ l.length ≤ val (x :: l) := by
  rw [val_cons]
  have : 1 ≤ x.toNat := by omega
  have := Nat.mul_le_mul_right (256 ^ l.length) this
  omega

theorem pow8 {k : Nat} (h : k ≤ 8) : 256 ^ k ≤ 2 ^ 64 := by
  rw [pow256]
  exact Nat.pow_le_pow_right (by omega) (by omega)

theorem val_small {l : List Int} (h : ∀ x ∈ l, 0 ≤ x ∧ x < 256) (h8 : l.length ≤ 8) : val l < 2 ^ 64 := Nat.lt_of_lt_of_le (val_lt h) (pow8 h8)

theorem sz_val {l : List Int} (h : ∀ x ∈ l, 0 ≤ x ∧ x < 256) (h8 : l.length ≤ 8) (hh : l.head? ≠ some 0) : sz (val l) = l.length := by
  refine sz_of (val_small h h8) (val_lt h) ?_
  cases l with
  | nil => exact .inl rfl
  | cons x l => exact .inr (by simpa using val_head_le (h x (by simp)).1 (by simpa using hh))

theorem be_val {l : List Int} (h : ∀ x ∈ l, 0 ≤ x ∧ x < 256) (h8 : l.length ≤ 8) (hh : l.head? ≠ some 0) : be (val l) = l := by
  have hs := sz_val h h8 hh
  refine List.ext_getElem (by rw [be_length, hs]) fun j h1 h2 => ?_
  have e := be_getD (u := val l) (j := j) (by rw [hs]; exact h2)
  have e' : (be (val l))[j] = (be (val l)).getD j 0 := by simp [List.getD, h1]
  rw [e', e, hs]
  have hsplit : l = l.take j ++ (l[j] :: l.drop (j + 1)) := by rw [List.getElem_cons_drop, List.take_append_drop]
  have hx := h l[j] (List.getElem_mem h2)
  have hd := val_lt (l := l.drop (j + 1)) fun y hy => h y (List.mem_of_mem_drop hy)
  have hlen : (l.drop (j + 1)).length = l.length - 1 - j := by rw [List.length_drop]; omega
  have hv : val l = (val (l.take j) * 256 + l[j].toNat) * 256 ^ (l.length - 1 - j) + val (l.drop (j + 1)) := by
    conv => lhs; rw [hsplit]
    rw [val_append, val_cons, List.length_cons, hlen, Nat.pow_succ, Nat.add_mul, Nat.mul_assoc, Nat.mul_comm (256 ^ _) 256, Nat.add_assoc]
  rw [hlen] at hd
  unfold dig
  rw [hv, Nat.add_comm, Nat.add_mul_div_right _ _ (Nat.pow_pos (by omega)), Nat.div_eq_of_lt hd]
  omega

/-- The bytes of a number, the lowest first. -/
def lowL (u t : Nat) : List Int := (List.range t).map (dig u)

theorem lowL_succ (u t : Nat) : lowL u (t + 1) = lowL u t ++ [dig u t] := by simp [lowL, List.range_succ]

theorem lowL_length (u t : Nat) : (lowL u t).length = t := by simp [lowL]

theorem lowL_getD {u t j : Nat} (h : j < t) : (lowL u t).getD j 0 = dig u j := by simp [lowL, List.getD, h]

theorem div_pos_iff {u : Nat} (h : u < 2 ^ 64) (t : Nat) : 0 < u / 256 ^ t ↔ t < sz u := by
  rw [Nat.div_pos_iff]
  constructor
  · rintro ⟨_, h2⟩
    by_cases hc : t < sz u
    · exact hc
    · have h3 := lt_pow h
      have : 256 ^ sz u ≤ 256 ^ t := Nat.pow_le_pow_right (by omega) (by omega)
      omega
  · intro ht
    refine ⟨Nat.pow_pos (by omega), ?_⟩
    have h0 : u ≠ 0 := fun e => by subst e; rw [sz_zero] at ht; omega
    have h3 := pow_le h h0
    have : 256 ^ t ≤ 256 ^ (sz u - 1) := Nat.pow_le_pow_right (by omega) (by omega)
    omega

theorem dig_eq (u t : Nat) : ((u / 256 ^ t : Nat) : Int) % 256 = dig u t := by unfold dig; omega

theorem div_step (u t : Nat) : ((u / 256 ^ t : Nat) : Int) / 256 = ((u / 256 ^ (t + 1) : Nat) : Int) := by
  rw [Nat.pow_succ, ← Nat.div_div_eq_div_mul]
  omega

/-! The decoding: a value, how many bytes it has, an error (0: none). -/

/-- How many bytes the head says. -/
def sOf (x : Int) : Int := if 16 < x then x - 16 else x

/-- The greatest absolute value. -/
def lim (neg : Bool) : Nat := if neg then 9223372036854775808 else 9223372036854775807

/-- What stands behind a head. -/
def numC (neg : Bool) (s : Int) (t : List Int) : Int × Nat × Int :=
  if 8 < s then (0, 0, 5)
  else if (t.length : Int) < s then (0, 0, 4)
  else if (t.take s.toNat).head? = some 0 ∨ lim neg < val (t.take s.toNat) then (0, 0, 5)
  else ((if neg then -(val (t.take s.toNat) : Int) else (val (t.take s.toNat) : Int)), s.toNat + 1, 0)

/-- A number at the head of bytes. -/
def num : List Int → Int × Nat × Int
  | [] => (0, 0, 4)
  | x :: t => numC (decide (16 < x)) (sOf x) t

/-- A number from 0 to most. -/
def cnt (most : Int) (l : List Int) : Int × Nat × Int :=
  if (num l).2.2 = 0 ∧ ((num l).1 < 0 ∨ most < (num l).1) then (0, 0, 3) else num l

/-- A byte string. -/
def blb (l : List Int) : List Int × Nat × Int :=
  if (cnt 2147483647 l).2.2 ≠ 0 then ([], 0, (cnt 2147483647 l).2.2)
  else if ((l.drop (cnt 2147483647 l).2.1).length : Int) < (cnt 2147483647 l).1 then ([], 0, 4)
  else ((l.drop (cnt 2147483647 l).2.1).take (cnt 2147483647 l).1.toNat, (cnt 2147483647 l).2.1 + (cnt 2147483647 l).1.toNat, 0)

theorem numC_facts (neg : Bool) (n : Nat) (t : List Int) : ((numC neg n t).2.2 ≠ 0 → (numC neg n t).1 = 0 ∧ (numC neg n t).2.1 = 0) ∧ (numC neg n t).2.1 ≤ t.length + 1 := by
  unfold numC
  split
  · exact ⟨fun _ => ⟨rfl, rfl⟩, Nat.zero_le _⟩
  · split
    · exact ⟨fun _ => ⟨rfl, rfl⟩, Nat.zero_le _⟩
    · split
      · exact ⟨fun _ => ⟨rfl, rfl⟩, Nat.zero_le _⟩
      · refine ⟨fun h => absurd rfl h, ?_⟩
        show (n : Int).toNat + 1 ≤ _
        omega

theorem sOf_nat {x : Int} (h : 0 ≤ x) : ∃ n : Nat, sOf x = (n : Int) := by
  refine ⟨(sOf x).toNat, ?_⟩
  have : 0 ≤ sOf x := by unfold sOf; split <;> omega
  omega

theorem num_facts {l : List Int} (hb : ∀ y ∈ l, 0 ≤ y ∧ y < 256) : ((num l).2.2 ≠ 0 → (num l).1 = 0 ∧ (num l).2.1 = 0) ∧ (num l).2.1 ≤ l.length := by
  cases l with
  | nil => exact ⟨fun _ => ⟨rfl, rfl⟩, Nat.zero_le _⟩
  | cons x t =>
    obtain ⟨n, hn⟩ := sOf_nat (hb x (by simp)).1
    show ((numC (decide (16 < x)) (sOf x) t).2.2 ≠ 0 → (numC (decide (16 < x)) (sOf x) t).1 = 0 ∧ (numC (decide (16 < x)) (sOf x) t).2.1 = 0) ∧ (numC (decide (16 < x)) (sOf x) t).2.1 ≤ (x :: t).length
    rw [hn, List.length_cons]
    exact numC_facts _ _ _

theorem cnt_facts {m : Int} {l : List Int} (hb : ∀ y ∈ l, 0 ≤ y ∧ y < 256) : ((cnt m l).2.2 ≠ 0 → (cnt m l).1 = 0 ∧ (cnt m l).2.1 = 0) ∧ (cnt m l).2.1 ≤ l.length := by
  unfold cnt
  split
  · exact ⟨fun _ => ⟨rfl, rfl⟩, Nat.zero_le _⟩
  · exact num_facts hb

/-! A reader's state: what is left, and its error. -/

/-- The state behind a reading. -/
def nxt (l : List Int) (k : Nat) (e : Int) : List Int × Int := (if e = 0 then l.drop k else l, e)

/-- Int. -/
def rdInt (l : List Int) (er : Int) : Int × List Int × Int :=
  if er = 0 then (if (num l).2.2 = 0 then (num l).1 else 0, nxt l (num l).2.1 (num l).2.2) else (0, l, er)

/-- Count. -/
def rdCnt (most : Int) (l : List Int) (er : Int) : Int × List Int × Int :=
  if er = 0 then (if (cnt most l).2.2 = 0 then (cnt most l).1 else 0, nxt l (cnt most l).2.1 (cnt most l).2.2) else (0, l, er)

/-- Blob. -/
def rdBlb (l : List Int) (er : Int) : List Int × List Int × Int :=
  if er = 0 then (if (blb l).2.2 = 0 then (blb l).1 else [], nxt l (blb l).2.1 (blb l).2.2) else ([], l, er)

/-- Done. -/
def dne (l : List Int) (er : Int) : Int := if er = 0 ∧ l ≠ [] then 5 else er

end Go.Proofs.Ytgokhagbknlfaaa.Pk
