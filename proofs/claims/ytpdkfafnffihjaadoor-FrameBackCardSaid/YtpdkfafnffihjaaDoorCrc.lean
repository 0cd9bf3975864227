/-
  The checksum as a plain function: a step of one bit, which is linear; a step of one byte; what more bytes make of a sum. No program is named here.
-/
namespace Go.Proofs.YtpdkfafnffihjaaDoor.Crc

theorem xlc (a b c : Nat) : a ^^^ (b ^^^ c) = b ^^^ (a ^^^ c) := by
  rw [← Nat.xor_assoc, Nat.xor_comm a b, Nat.xor_assoc]

theorem xss (a b : Nat) : a ^^^ (a ^^^ b) = b := by
  rw [← Nat.xor_assoc, Nat.xor_self, Nat.zero_xor]

theorem xor_nought {a b : Nat} (e : a ^^^ b = 0) : a = b := by
  have := congrArg (· ^^^ b) e
  simpa [Nat.xor_assoc] using this

/-- One bit: half of the number, and the polynomial if it was odd. -/
def h (y : Nat) : Nat := (y / 2) ^^^ (if y % 2 = 1 then 0xEDB88320 else 0)

/-- n bits. -/
def hs : Nat → Nat → Nat
  | 0, y => y
  | n + 1, y => hs n (h y)

theorem h_zero : h 0 = 0 := by decide
theorem hs_zero (n : Nat) : hs n 0 = 0 := by
  induction n with
  | zero => rfl
  | succ n ih => rw [hs, h_zero, ih]

theorem odd_xor (a b : Nat) : (a ^^^ b) % 2 = (a % 2 + b % 2) % 2 := by
  have := Nat.xor_mod_two_pow (a := a) (b := b) (n := 1)
  simp only [Nat.pow_one] at this
  rw [this]
  rcases Nat.mod_two_eq_zero_or_one a with h1 | h1 <;> rcases Nat.mod_two_eq_zero_or_one b with h2 | h2 <;> rw [h1, h2] <;> rfl

theorem half_xor (a b : Nat) : (a ^^^ b) / 2 = a / 2 ^^^ b / 2 := by
  have := Nat.xor_div_two_pow (a := a) (b := b) (n := 1)
  simpa using this

theorem h_xor (a b : Nat) : h (a ^^^ b) = h a ^^^ h b := by
  unfold h
  rw [odd_xor, half_xor]
  rcases Nat.mod_two_eq_zero_or_one a with h1 | h1 <;> rcases Nat.mod_two_eq_zero_or_one b with h2 | h2 <;> rw [h1, h2] <;> simp [Nat.xor_assoc, Nat.xor_comm, xlc]

theorem hs_xor (n a b : Nat) : hs n (a ^^^ b) = hs n a ^^^ hs n b := by
  induction n generalizing a b with
  | zero => rfl
  | succ n ih => rw [hs, hs, hs, h_xor, ih]

theorem hs_add (m n y : Nat) : hs (m + n) y = hs n (hs m y) := by
  induction m generalizing y with
  | zero => rw [Nat.zero_add]; rfl
  | succ m ih => rw [Nat.succ_add, hs, hs, ih]

theorem h_double (c : Nat) : h (2 * c) = c := by
  unfold h
  rw [if_neg (by omega)]
  have : 2 * c / 2 = c := by omega
  rw [this]
  simp

theorem hs_shift (n c : Nat) : hs n (2 ^ n * c) = c := by
  induction n generalizing c with
  | zero => simp [hs]
  | succ n ih =>
    have e : 2 ^ (n + 1) * c = 2 * (2 ^ n * c) := by rw [Nat.pow_succ]; ac_rfl
    rw [hs, e, h_double, ih]

theorem h_lt {y : Nat} (hy : y < 4294967296) : h y < 4294967296 := by
  have : h y < 2 ^ 32 := by
    unfold h
    refine Nat.xor_lt_two_pow (by omega) ?_
    split <;> decide
  simpa using this

theorem hs_lt (n : Nat) {y : Nat} (hy : y < 4294967296) : hs n y < 4294967296 := by
  induction n generalizing y with
  | zero => exact hy
  | succ n ih => exact ih (h_lt hy)

/-- Only nought becomes nought. -/
theorem h_inj {y : Nat} (hy : y < 4294967296) (e : h y = 0) : y = 0 := by
  unfold h at e
  rcases Nat.mod_two_eq_zero_or_one y with h1 | h1
  · rw [h1, if_neg (by decide), Nat.xor_zero] at e
    omega
  · rw [h1, if_pos rfl] at e
    have : y / 2 = 0xEDB88320 := xor_nought e
    omega

theorem hs_inj (n : Nat) {y : Nat} (hy : y < 4294967296) (e : hs n y = 0) : y = 0 := by
  induction n generalizing y with
  | zero => exact e
  | succ n ih => exact h_inj hy (ih (h_lt hy) e)

/-- The step of one byte. -/
def st (r x : Nat) : Nat := hs 8 (r ^^^ x)

/-- Bytes. -/
def fold (r : Nat) (l : List Nat) : Nat := l.foldl st r

theorem st_lt {r x : Nat} (hr : r < 4294967296) (hx : x < 256) : st r x < 4294967296 := by
  have : r ^^^ x < 2 ^ 32 := Nat.xor_lt_two_pow (by omega) (by omega)
  exact hs_lt 8 (by omega)

theorem fold_lt {r : Nat} {l : List Nat} (hr : r < 4294967296) (hl : ∀ x ∈ l, x < 256) : fold r l < 4294967296 := by
  induction l generalizing r with
  | nil => exact hr
  | cons x l ih => exact ih (st_lt hr (hl x (by simp))) fun y hy => hl y (by simp [hy])

theorem fold_append (r : Nat) (a b : List Nat) : fold r (a ++ b) = fold (fold r a) b := by
  unfold fold
  rw [List.foldl_append]

/-- Lists held against one another, place by place. -/
def mixL (a b : List Nat) : List Nat := List.zipWith (· ^^^ ·) a b

theorem st_xor (r s x y : Nat) : st (r ^^^ s) (x ^^^ y) = st r x ^^^ st s y := by
  unfold st
  rw [← hs_xor]
  congr 1
  simp only [Nat.xor_assoc, xlc s x y]

theorem fold_xor (r s : Nat) (a b : List Nat) (e : a.length = b.length) : fold (r ^^^ s) (mixL a b) = fold r a ^^^ fold s b := by
  induction a generalizing r s b with
  | nil =>
    cases b with
    | nil => rfl
    | cons _ _ => simp at e
  | cons x a ih =>
    cases b with
    | nil => simp at e
    | cons y b =>
      show fold (st (r ^^^ s) (x ^^^ y)) (mixL a b) = _
      rw [st_xor]
      exact ih _ _ _ (by simpa using e)

/-- The number whose digits the bytes are, the least first. -/
def num : List Nat → Nat
  | [] => 0
  | x :: l => x ^^^ 256 * num l

theorem fold_num (r : Nat) (l : List Nat) : fold r l = hs (8 * l.length) (r ^^^ num l) := by
  induction l generalizing r with
  | nil => simp [fold, hs, num]
  | cons x l ih =>
    show fold (st r x) l = _
    rw [ih]
    have e : 8 * (x :: l).length = 8 + 8 * l.length := by simp; omega
    rw [e, hs_add]
    congr 1
    rw [num, ← Nat.xor_assoc, hs_xor 8 (r ^^^ x)]
    congr 1
    exact (hs_shift 8 (num l)).symm

/-- A bit of a byte turned: a bit of the number. -/
theorem num_set (l : List Nat) (k v : Nat) (hk : k < l.length) : num (l.set k (l[k] ^^^ v)) = num l ^^^ 256 ^ k * v := by
  induction l generalizing k with
  | nil => simp at hk
  | cons x l ih =>
    cases k with
    | zero => simp only [List.set_cons_zero, List.getElem_cons_zero, num, Nat.pow_zero, Nat.one_mul]; simp only [Nat.xor_assoc, Nat.xor_comm]
    | succ k =>
      have hk' : k < l.length := by simpa using hk
      simp only [List.set_cons_succ, List.getElem_cons_succ, num]
      rw [ih k hk']
      have e : ∀ a b : Nat, 256 * (a ^^^ b) = 256 * a ^^^ 256 * b := fun a b => by
        have := Nat.shiftLeft_xor_distrib (a := a) (b := b) (i := 8)
        simp only [Nat.shiftLeft_eq] at this
        simpa [Nat.mul_comm] using this
      rw [e, Nat.pow_succ, Nat.xor_assoc]
      congr 2
      ac_rfl

/-- The two tables, as the text has them. -/
def lowerL : List Nat := [0, 1996959894, 3993919788, 2567524794, 124634137, 1886057615, 3915621685, 2657392035, 249268274, 2044508324, 3772115230, 2547177864, 162941995, 2125561021, 3887607047, 2428444049]
def upperL : List Nat := [0, 498536548, 997073096, 651767980, 1994146192, 1802195444, 1303535960, 1342533948, 3988292384, 4027552580, 3604390888, 3412177804, 2607071920, 2262029012, 2685067896, 3183342108]

theorem lower_lt (i : Nat) (hi : i < 16) : lowerL.getD i 0 < 4294967296 := (by decide : ∀ i < 16, lowerL.getD i 0 < 4294967296) i hi
theorem upper_lt (i : Nat) (hi : i < 16) : upperL.getD i 0 < 4294967296 := (by decide : ∀ i < 16, upperL.getD i 0 < 4294967296) i hi

theorem tab8 (y : Nat) (hy : y < 256) : hs 8 y = lowerL.getD (y % 16) 0 ^^^ upperL.getD (y / 16) 0 :=
  (by decide +kernel : ∀ y < 256, hs 8 y = lowerL.getD (y % 16) 0 ^^^ upperL.getD (y / 16) 0) y hy

theorem cut_at (i r : Nat) : 2 ^ i * (r / 2 ^ i) ^^^ r % 2 ^ i = r := by
  apply Nat.eq_of_testBit_eq
  intro j
  have h1 := Nat.testBit_two_pow_mul_add (i := i) (r / 2 ^ i) (Nat.two_pow_pos i) j
  rw [Nat.add_zero] at h1
  rw [Nat.testBit_xor, h1, Nat.testBit_mod_two_pow, Nat.testBit_div_two_pow]
  by_cases hj : j < i
  · simp [hj]
  · have : j - i + i = j := by omega
    simp [hj, this]

/-- What the tables make of a byte. -/
theorem tab_step (r x : Nat) (hx : x < 256) : (r / 256 ^^^ lowerL.getD ((x ^^^ r % 256) % 16) 0) ^^^ upperL.getD ((x ^^^ r % 256) / 16) 0 = st r x := by
  have hy : x ^^^ r % 256 < 256 := by
    have : x ^^^ r % 256 < 2 ^ 8 := Nat.xor_lt_two_pow (by omega) (by omega)
    omega
  rw [Nat.xor_assoc, ← tab8 _ hy]
  unfold st
  have e := cut_at 8 r
  have e2 : r ^^^ x = 2 ^ 8 * (r / 256) ^^^ (x ^^^ r % 256) := by
    conv => lhs; rw [← e]
    rw [Nat.xor_assoc, Nat.xor_comm (r % 2 ^ 8) x]
  rw [e2, hs_xor 8 (2 ^ 8 * (r / 256)), hs_shift]

/-- The sum that goes on from s. -/
def more (s : Nat) (l : List Nat) : Nat := 4294967295 ^^^ fold (4294967295 ^^^ s) l

theorem ones_lt {s : Nat} (hs : s < 4294967296) : 4294967295 ^^^ s < 4294967296 := by
  have : 4294967295 ^^^ s < 2 ^ 32 := Nat.xor_lt_two_pow (by omega) (by omega)
  omega

theorem more_lt {s : Nat} {l : List Nat} (hs : s < 4294967296) (hl : ∀ x ∈ l, x < 256) : more s l < 4294967296 := ones_lt (fold_lt (ones_lt hs) hl)

theorem more_append (s : Nat) (a b : List Nat) : more s (a ++ b) = more (more s a) b := by
  unfold more
  rw [fold_append, xss]

theorem more_nil (s : Nat) : more s [] = s := xss _ _

/-- Two sums of rows of one length differ by what their differences come to. -/
theorem more_xor (s t : Nat) (a b : List Nat) (e : a.length = b.length) : more s a ^^^ more t b = fold (s ^^^ t) (mixL a b) := by
  unfold more
  have e1 := fold_xor (4294967295 ^^^ s) (4294967295 ^^^ t) a b e
  have e2 : (4294967295 ^^^ s) ^^^ (4294967295 ^^^ t) = s ^^^ t := by
    rw [Nat.xor_assoc, xlc s, xss]
  rw [e2] at e1
  rw [e1, Nat.xor_assoc, xlc (fold _ a), xss]

theorem mix_self (a : List Nat) : num (mixL a a) = 0 := by
  induction a with
  | nil => rfl
  | cons x a ih =>
    show x ^^^ x ^^^ 256 * num (mixL a a) = 0
    rw [ih, Nat.xor_self]
    rfl

theorem mix_len (a b : List Nat) (e : a.length = b.length) : (mixL a b).length = a.length := by
  unfold mixL
  rw [List.length_zipWith, e, Nat.min_self]

/-- What two sums differ by, behind one row. -/
theorem more_diff (s t : Nat) (a : List Nat) : more s a ^^^ more t a = hs (8 * a.length) (s ^^^ t) := by
  rw [more_xor s t a a rfl, fold_num, mix_self, mix_len a a rfl, Nat.xor_zero]

theorem more_inj {s t : Nat} (hs : s < 4294967296) (ht : t < 4294967296) (a : List Nat) (e : more s a = more t a) : s = t := by
  have h := more_diff s t a
  rw [e, Nat.xor_self] at h
  have hl : s ^^^ t < 2 ^ 32 := Nat.xor_lt_two_pow (by omega) (by omega)
  exact xor_nought (hs_inj _ (by omega) h.symm)

theorem diff_beq {s t : Nat} (hs : s < 4294967296) (ht : t < 4294967296) (a : List Nat) : (((s : Int) == (t : Int)) == ((more s a : Int) == (more t a : Int))) = true := by
  by_cases e : s = t
  · subst e
    simp
  · have h1 : ((s : Int) == (t : Int)) = false := beq_eq_false_iff_ne.2 (by omega)
    have h2 : ((more s a : Int) == (more t a : Int)) = false := beq_eq_false_iff_ne.2 fun h => e (more_inj hs ht a (by omega))
    rw [h1, h2]
    rfl

theorem mix_back (a o : List Nat) (e : o.length = a.length) : mixL a (mixL a o) = o := by
  induction a generalizing o with
  | nil => cases o with
    | nil => rfl
    | cons _ _ => simp at e
  | cons x a ih => cases o with
    | nil => simp at e
    | cons y o =>
      show (x ^^^ (x ^^^ y)) :: mixL a (mixL a o) = _
      rw [xss, ih o (by simpa using e)]

theorem mix_assoc (a b c : List Nat) : mixL (mixL a b) c = mixL a (mixL b c) := by
  induction a generalizing b c with
  | nil => rfl
  | cons x a ih => cases b with
    | nil => rfl
    | cons y b => cases c with
      | nil => rfl
      | cons z c =>
        show ((x ^^^ y) ^^^ z) :: mixL (mixL a b) c = (x ^^^ (y ^^^ z)) :: mixL a (mixL b c)
        rw [ih, Nat.xor_assoc]

/-- What turning bits turns of a sum. -/
theorem line1 (s : Nat) (a o : List Nat) (e : o.length = a.length) : more s a ^^^ more s (mixL a o) = fold 0 o := by
  have hl : (mixL a o).length = a.length := mix_len a o e.symm
  rw [more_xor s s a (mixL a o) hl.symm, Nat.xor_self, mix_back a o e]

theorem line2 (o t : List Nat) (e : o.length = t.length) : fold 0 (mixL o t) = fold 0 o ^^^ fold 0 t := by
  have := fold_xor 0 0 o t e
  rwa [Nat.xor_self] at this

theorem mul_xor (i a b : Nat) : 2 ^ i * (a ^^^ b) = 2 ^ i * a ^^^ 2 ^ i * b := by
  have := Nat.shiftLeft_xor_distrib (a := a) (b := b) (i := i)
  simp only [Nat.shiftLeft_eq] at this
  rw [Nat.mul_comm, Nat.mul_comm (2 ^ i) a, Nat.mul_comm (2 ^ i) b]
  exact this

/-- One bit more of a number. -/
theorem bit_more (W i : Nat) : W % 2 ^ (i + 1) = 2 ^ i * (W / 2 ^ i % 2) ^^^ W % 2 ^ i := by
  have h := cut_at i (W % 2 ^ (i + 1))
  have h1 : W % 2 ^ (i + 1) / 2 ^ i = W / 2 ^ i % 2 := by rw [Nat.pow_succ, Nat.mod_mul_right_div_self]
  have h2 : W % 2 ^ (i + 1) % 2 ^ i = W % 2 ^ i := by rw [Nat.pow_succ, Nat.mod_mul_right_mod]
  rw [h1, h2] at h
  exact h.symm

/-- The bit at a place turned. -/
theorem num_turn (l : List Nat) (at' : Nat) (h : at' / 8 < l.length) : num (l.set (at' / 8) (l.getD (at' / 8) 0 ^^^ 2 ^ (at' % 8))) = num l ^^^ 2 ^ at' := by
  have e : l.getD (at' / 8) 0 = l[at' / 8] := by simp [List.getD, h]
  rw [e, num_set l _ _ h]
  congr 1
  have e2 : (256 : Nat) = 2 ^ 8 := rfl
  rw [e2, ← Nat.pow_mul, ← Nat.pow_add]
  congr 1
  omega

/-- The state of the turning behind one more bit. -/
theorem turn_yes {l : List Nat} {B f W i : Nat} (h : (f + i) / 8 < l.length) (e : num l = B ^^^ 2 ^ f * (W % 2 ^ i)) (hb : W / 2 ^ i % 2 = 1) :
    num (l.set ((f + i) / 8) (l.getD ((f + i) / 8) 0 ^^^ 2 ^ ((f + i) % 8))) = B ^^^ 2 ^ f * (W % 2 ^ (i + 1)) := by
  rw [num_turn l _ h, e, bit_more, hb, Nat.mul_one, mul_xor, ← Nat.pow_add, Nat.xor_assoc]
  congr 1
  exact Nat.xor_comm _ _

theorem turn_no {W i : Nat} (hb : ¬ W / 2 ^ i % 2 = 1) : W % 2 ^ (i + 1) = W % 2 ^ i := by
  rw [bit_more, show W / 2 ^ i % 2 = 0 by omega, Nat.mul_zero, Nat.zero_xor]

theorem turn_pos {W i : Nat} (hb : W / 2 ^ i % 2 = 1) : W % 2 ^ (i + 1) ≠ 0 := by
  intro e
  have h1 : W % 2 ^ (i + 1) / 2 ^ i = W / 2 ^ i % 2 := by rw [Nat.pow_succ, Nat.mod_mul_right_div_self]
  rw [e, hb, Nat.zero_div] at h1
  omega

/-- Bits within 32 side by side that are turned turn the sum. -/
theorem bits_tell {x b : List Nat} {f V : Nat} (e : num x = num b ^^^ 2 ^ f * V) (hl : x.length = b.length) (hf : f ≤ 8 * b.length) (hV : V < 4294967296) : more 0 x = more 0 b ↔ V = 0 := by
  have h : more 0 x ^^^ more 0 b = hs (8 * b.length - f) V := by
    unfold more
    rw [fold_num, fold_num, hl, Nat.xor_assoc, xlc (hs _ _), xss, ← hs_xor, e]
    have e1 : 4294967295 ^^^ 0 ^^^ (num b ^^^ 2 ^ f * V) ^^^ (4294967295 ^^^ 0 ^^^ num b) = 2 ^ f * V := by
      rw [Nat.xor_zero, Nat.xor_assoc, xlc (num b ^^^ _), xss, Nat.xor_comm (num b), Nat.xor_assoc, Nat.xor_self, Nat.xor_zero]
    rw [e1]
    have e2 : 8 * b.length = f + (8 * b.length - f) := by omega
    conv => lhs; rw [e2]
    rw [hs_add, hs_shift]
  constructor
  · intro q
    rw [q, Nat.xor_self] at h
    exact hs_inj _ hV h.symm
  · intro q
    rw [q, hs_zero] at h
    exact xor_nought h

end Go.Proofs.YtpdkfafnffihjaaDoor.Crc
