/-
  What was laid is read as it was: plain functions on lists of bytes. No program is named here.
-/
import Derived.Test.YtgokhagbknlfaaaPlain
namespace Go.Proofs.Ytgokhagbknlfaaa.Pk

theorem numC_err (neg : Bool) (s : Int) (t : List Int) : (numC neg s t).2.2 = 0 ∨ (numC neg s t).2.2 = 4 ∨ (numC neg s t).2.2 = 5 := by
  unfold numC
  split
  · exact .inr (.inr rfl)
  · split
    · exact .inr (.inl rfl)
    · split
      · exact .inr (.inr rfl)
      · exact .inl rfl

theorem num_err (l : List Int) : (num l).2.2 = 0 ∨ (num l).2.2 = 4 ∨ (num l).2.2 = 5 := by
  cases l with
  | nil => exact .inr (.inl rfl)
  | cons x t => exact numC_err _ _ _

theorem numC_ok {neg : Bool} {n : Nat} {t : List Int} (h8 : n ≤ 8) (hn : n ≤ t.length) (hz : (t.take n).head? ≠ some 0) (hv : val (t.take n) ≤ lim neg) :
    numC neg (n : Int) t = ((if neg then -(val (t.take n) : Int) else (val (t.take n) : Int)), n + 1, 0) := by
  unfold numC
  rw [if_neg (by omega), if_neg (by omega), Int.toNat_natCast, if_neg]
  rintro (h | h)
  · exact hz h
  · omega

theorem numC_of {neg : Bool} {n : Nat} {t : List Int} (h : (numC neg (n : Int) t).2.2 = 0) : n ≤ 8 ∧ n ≤ t.length ∧ (t.take n).head? ≠ some 0 ∧ val (t.take n) ≤ lim neg := by
  unfold numC at h
  split at h
  · cases h
  · split at h
    · cases h
    · rw [Int.toNat_natCast] at h
      split at h
      · cases h
      · rename_i h1 h2 h3
        refine ⟨by omega, by omega, fun e => h3 (.inl e), ?_⟩
        have : ¬ lim neg < val (t.take n) := fun e => h3 (.inr e)
        omega

/-- What is read as a number is the number's own encoding. -/
theorem num_canon {l : List Int} (hb : ∀ y ∈ l, 0 ≤ y ∧ y < 256) (h : (num l).2.2 = 0) : enc (num l).1 = l.take (num l).2.1 ∧ 1 ≤ (num l).2.1 ∧ -9223372036854775808 ≤ (num l).1 ∧ (num l).1 ≤ 9223372036854775807 := by
  cases l with
  | nil => cases h
  | cons x t =>
    have hx := hb x (by simp)
    have hsOf : (16 < x ∧ sOf x = x - 16) ∨ (x ≤ 16 ∧ sOf x = x) := by unfold sOf; split <;> omega
    obtain ⟨n, hn⟩ := sOf_nat hx.1
    change (numC (decide (16 < x)) (sOf x) t).2.2 = 0 at h
    show enc (numC (decide (16 < x)) (sOf x) t).1 = (x :: t).take (numC (decide (16 < x)) (sOf x) t).2.1 ∧ 1 ≤ (numC (decide (16 < x)) (sOf x) t).2.1 ∧ -9223372036854775808 ≤ (numC (decide (16 < x)) (sOf x) t).1 ∧ (numC (decide (16 < x)) (sOf x) t).1 ≤ _
    rw [hn] at h hsOf ⊢
    obtain ⟨h8, hl, hz, hv⟩ := numC_of h
    rw [numC_ok h8 hl hz hv]
    have hbt : ∀ y ∈ t.take n, 0 ≤ y ∧ y < 256 := fun y hy => hb y (by simp [List.mem_of_mem_take hy])
    have hlen : (t.take n).length = n := by rw [List.length_take]; omega
    have hbe := be_val hbt (by omega) hz
    have hsz := sz_val hbt (by omega) hz
    rw [hlen] at hsz
    have hsm := val_small hbt (by omega)
    generalize hu : val (t.take n) = u at *
    rw [List.take_succ_cons, ← hbe]
    by_cases h16 : 16 < x
    · have hlim : lim (decide (16 < x)) = 9223372036854775808 := by simp [lim, h16]
      rw [hlim] at hv
      simp only [h16, decide_true, if_true]
      have h1 : 1 ≤ n := by omega
      have hu0 : u ≠ 0 := by
        intro e
        subst e
        rw [sz_zero] at hsz
        omega
      refine ⟨?_, Nat.le_add_left 1 n, by show _ ≤ (_ : Int); omega, by show (_ : Int) ≤ _; omega⟩
      unfold enc hd
      rw [Int.natAbs_neg, Int.natAbs_natCast, hsz, if_pos (by omega)]
      rw [show (n : Int) + 16 = x by omega]
    · have hlim : lim (decide (16 < x)) = 9223372036854775807 := by simp [lim, h16]
      rw [hlim] at hv
      simp only [h16, decide_false, Bool.false_eq_true, if_false]
      refine ⟨?_, Nat.le_add_left 1 n, by show _ ≤ (_ : Int); omega, by show (_ : Int) ≤ _; omega⟩
      unfold enc hd
      rw [Int.natAbs_natCast, hsz, if_neg (by omega), show (n : Int) + 0 = x by omega]

theorem head_be (u : Nat) (r : List Int) : (be u ++ r).take (sz u) = be u := by
  rw [← be_length u, List.take_left']
  rfl

theorem be_head {u : Nat} (h : u < 2 ^ 64) : (be u).head? ≠ some 0 := by
  by_cases h0 : u = 0
  · subst h0
    decide
  · have hs := sz_pos h h0
    have hp := pow_le h h0
    have hl := lt_pow h
    have e : (be u).head? = some (dig u (sz u - 1)) := by
      have := be_getD (u := u) (j := 0) (by omega)
      have hlen := be_length u
      cases hb : be u with
      | nil => rw [hb] at hlen; simp at hlen; omega
      | cons y t =>
        rw [hb] at this
        simp at this
        simp [this]
    rw [e]
    intro hc
    have hd : dig u (sz u - 1) = 0 := by simpa using hc
    unfold dig at hd
    have h1 : u / 256 ^ (sz u - 1) < 256 := by
      rw [Nat.div_lt_iff_lt_mul (Nat.pow_pos (by omega)), Nat.mul_comm, ← Nat.pow_succ]
      rw [show (sz u - 1).succ = sz u by omega]
      exact hl
    have h2 : 0 < u / 256 ^ (sz u - 1) := Nat.div_pos hp (Nat.pow_pos (by omega))
    omega

/-- A number is read as it was laid. -/
theorem num_enc {n : Int} (h1 : -9223372036854775808 ≤ n) (h2 : n ≤ 9223372036854775807) (r : List Int) : num (enc n ++ r) = (n, (enc n).length, 0) := by
  have hu : n.natAbs < 2 ^ 64 := by omega
  have h8 := sz_le hu
  have hz : n.natAbs = 0 → sz n.natAbs = 0 := fun e => by rw [e]; exact sz_zero
  have hp : n.natAbs ≠ 0 → 1 ≤ sz n.natAbs := sz_pos hu
  show numC (decide (16 < hd n)) (sOf (hd n)) (be n.natAbs ++ r) = _
  have hhd : (n < 0 ∧ 16 < hd n ∧ sOf (hd n) = (sz n.natAbs : Int)) ∨ (0 ≤ n ∧ ¬ 16 < hd n ∧ sOf (hd n) = (sz n.natAbs : Int)) := by
    unfold sOf hd
    by_cases hn : n < 0
    · rw [if_pos hn]
      have := hp (by omega)
      left
      refine ⟨hn, by omega, ?_⟩
      rw [if_pos (by omega)]
      omega
    · rw [if_neg hn]
      right
      refine ⟨by omega, by omega, ?_⟩
      rw [if_neg (by omega)]
      omega
  have ht := head_be n.natAbs r
  have hv := val_be hu
  rcases hhd with ⟨hn, h16, hs⟩ | ⟨hn, h16, hs⟩
  · rw [hs, numC_ok h8 (by rw [List.length_append, be_length]; omega) (by rw [ht]; exact be_head hu) (by rw [ht, hv]; simp [lim, h16]; omega), ht, hv, enc_length]
    simp only [h16, decide_true, if_true]
    congr 1
    omega
  · rw [hs, numC_ok h8 (by rw [List.length_append, be_length]; omega) (by rw [ht]; exact be_head hu) (by rw [ht, hv]; simp [lim, h16]; omega), ht, hv, enc_length]
    simp only [h16, decide_false, Bool.false_eq_true, if_false]
    congr 1
    omega

/-- A beginning of a number's encoding is too short. -/
theorem num_cut {n : Int} (h1 : -9223372036854775808 ≤ n) (h2 : n ≤ 9223372036854775807) {j : Nat} (hj : j < (enc n).length) : num ((enc n).take j) = (0, 0, 4) := by
  cases j with
  | zero => rfl
  | succ j =>
    have hu : n.natAbs < 2 ^ 64 := by omega
    have h8 := sz_le hu
    have hp : n.natAbs ≠ 0 → 1 ≤ sz n.natAbs := sz_pos hu
    rw [enc_length] at hj
    have hsO : sOf (hd n) = (sz n.natAbs : Int) := by
      unfold sOf hd
      by_cases hn : n < 0
      · rw [if_pos hn]
        have := hp (by omega)
        rw [if_pos (by omega)]
        omega
      · rw [if_neg hn, if_neg (by omega)]
        omega
    show numC (decide (16 < hd n)) (sOf (hd n)) ((be n.natAbs).take j) = _
    rw [hsO]
    unfold numC
    rw [if_neg (by omega), if_pos]
    rw [List.length_take, be_length]
    omega

theorem cnt_ok {m : Int} {l : List Int} (_h : (num l).2.2 = 0) (h1 : 0 ≤ (num l).1) (h2 : (num l).1 ≤ m) : cnt m l = num l := by
  unfold cnt
  rw [if_neg (by omega)]

theorem cnt_err {m : Int} {l : List Int} (h : (num l).2.2 ≠ 0) : cnt m l = num l := by
  unfold cnt
  rw [if_neg (fun e => h e.1)]

/-- A byte string is read as it was laid. -/
theorem blb_enc {x : List Int} (hx : x.length ≤ 2147483647) (r : List Int) : blb (encB x ++ r) = (x, (encB x).length, 0) := by
  have hn := num_enc (n := (x.length : Int)) (by omega) (by omega) (x ++ r)
  have hc : cnt 2147483647 (encB x ++ r) = ((x.length : Int), (enc x.length).length, 0) := by
    have e : encB x ++ r = enc x.length ++ (x ++ r) := by rw [encB, List.append_assoc]
    rw [e, cnt_ok (by rw [hn]) (by rw [hn]; omega) (by rw [hn]; omega), hn]
  unfold blb
  rw [hc]
  have hd : (encB x ++ r).drop (enc x.length).length = x ++ r := by rw [encB, List.append_assoc, List.drop_left']; rfl
  simp only [ne_eq, not_true_eq_false, if_false, hd, Int.toNat_natCast]
  rw [if_neg (by rw [List.length_append]; omega)]
  rw [List.take_left' rfl]
  simp [encB]

/-- A beginning of a byte string's encoding is too short. -/
theorem blb_cut {x : List Int} (hx : x.length ≤ 2147483647) {j : Nat} (hj : j < (encB x).length) : blb ((encB x).take j) = ([], 0, 4) := by
  have hlen : (encB x).length = (enc x.length).length + x.length := by rw [encB, List.length_append]
  by_cases hjn : j < (enc x.length).length
  · have e : (encB x).take j = (enc x.length).take j := by rw [encB, List.take_append_of_le_length (by omega)]
    have hn := num_cut (n := (x.length : Int)) (by omega) (by omega) hjn
    unfold blb
    rw [e, cnt_err (by rw [hn]; decide), hn]
    rfl
  · have e : (encB x).take j = enc x.length ++ x.take (j - (enc x.length).length) := by
      rw [encB, List.take_append, List.take_of_length_le (by omega)]
    have hn := num_enc (n := (x.length : Int)) (by omega) (by omega) (x.take (j - (enc x.length).length))
    unfold blb
    rw [e, cnt_ok (by rw [hn]) (by rw [hn]; omega) (by rw [hn]; omega), hn]
    simp only [ne_eq, not_true_eq_false, if_false]
    rw [List.drop_left' rfl, if_pos]
    rw [List.length_take]
    omega

theorem num_zero (t : List Int) : (num (0 :: t)).2.2 = 0 := by
  show (numC (decide ((16 : Int) < 0)) (sOf 0) t).2.2 = 0
  have e : sOf 0 = ((0 : Nat) : Int) := by decide
  rw [e, numC_ok (by omega) (by omega) (by simp) (by simp [val])]

theorem form_ne {l : List Int} {m : Nat} (hm : m < l.length) (h : (num (l.drop m)).2.2 ≠ 0) : l.take m ++ [0] ≠ l.take (m + 1) := by
  intro e
  rw [List.take_succ_eq_append_getElem hm] at e
  have e2 := List.append_cancel_left e
  have e3 : (0 : Int) = l[m] := by simpa using e2
  rw [List.drop_eq_getElem_cons hm, ← e3] at h
  exact h (num_zero _)

theorem enc_zero : enc 0 = [0] := by decide

theorem encB_range {x : List Int} (hx : x.length ≤ 2147483647) (hb : ∀ y ∈ x, 0 ≤ y ∧ y < 256) : ∀ y ∈ encB x, 0 ≤ y ∧ y < 256 := by
  intro y hy
  rw [encB, List.mem_append] at hy
  rcases hy with hy | hy
  · exact enc_range (by omega) (by omega) y hy
  · exact hb y hy

theorem rdInt_err {l : List Int} {e : Int} (h : e ≠ 0) : rdInt l e = (0, l, e) := by unfold rdInt; rw [if_neg h]
theorem rdCnt_err {m : Int} {l : List Int} {e : Int} (h : e ≠ 0) : rdCnt m l e = (0, l, e) := by unfold rdCnt; rw [if_neg h]
theorem rdBlb_err {l : List Int} {e : Int} (h : e ≠ 0) : rdBlb l e = ([], l, e) := by unfold rdBlb; rw [if_neg h]
theorem dne_err {l : List Int} {e : Int} (h : e ≠ 0) : dne l e = e := by unfold dne; rw [if_neg (fun c => h c.1)]

end Go.Proofs.Ytgokhagbknlfaaa.Pk
