/-
  The document's answer for package crc: bits in a row, one by one.
-/
import Derived.Test.YtpdkfafnffihjaaDoorMore
import Derived.Test.YtpdkfafnffihjaaDoorKit
namespace Go.Proofs.YtpdkfafnffihjaaDoor
open Go.RowKit

namespace Crc

/-- The bits of a byte, the least one first. -/
def bit8 (x : Nat) : List Bool := (List.range 8).map fun k => x / 2 ^ k % 2 == 1

def bitsL (l : List Nat) : List Bool := (l.map bit8).flatten

theorem bit8_len (x : Nat) : (bit8 x).length = 8 := by simp [bit8]

theorem bitsL_snoc (l : List Nat) (x : Nat) : bitsL (l ++ [x]) = bitsL l ++ bit8 x := by simp [bitsL]

theorem bitsL_len (l : List Nat) : (bitsL l).length = 8 * l.length := by
  induction l with
  | nil => rfl
  | cons x l ih =>
    show (bit8 x ++ bitsL l).length = _
    rw [List.length_append, bit8_len, ih, List.length_cons]
    omega

theorem bit8_snoc (x : Nat) {k : Nat} (hk : k < 8) : (bit8 x).take (k + 1) = (bit8 x).take k ++ [x / 2 ^ k % 2 == 1] := by
  have hl : k < (bit8 x).length := by rw [bit8_len]; exact hk
  rw [List.take_succ_eq_append_getElem hl]
  congr 1
  simp [bit8]

/-- Behind one bit. -/
def hb (r : Nat) (b : Bool) : Nat := h (r ^^^ b.toNat)

def bfold (r : Nat) (bs : List Bool) : Nat := bs.foldl hb r

theorem hb_lt {r : Nat} (hr : r < 4294967296) (b : Bool) : hb r b < 4294967296 := by
  have : r ^^^ b.toNat < 2 ^ 32 := Nat.xor_lt_two_pow (by omega) (by cases b <;> decide)
  exact h_lt (by omega)

theorem hb_eq (r : Nat) (b : Bool) : hb r b = (r / 2) ^^^ (if ((r % 2 == 1) != b) then 0xEDB88320 else 0) := by
  unfold hb h
  rw [half_xor, odd_xor]
  cases b
  · rcases Nat.mod_two_eq_zero_or_one r with e | e <;> rw [e] <;> simp
  · rcases Nat.mod_two_eq_zero_or_one r with e | e <;> rw [e] <;> simp

theorem bitsN_fold (n r x : Nat) (hx : x < 2 ^ n) : bfold r ((List.range n).map fun k => x / 2 ^ k % 2 == 1) = hs n (r ^^^ x) := by
  induction n generalizing r x with
  | zero =>
    have : x = 0 := by simpa using hx
    subst this
    simp [bfold, hs]
  | succ n ih =>
    rw [List.range_succ_eq_map, List.map_cons, List.map_map]
    have e1 : ((fun k => x / 2 ^ k % 2 == 1) ∘ Nat.succ) = fun k => (x / 2) / 2 ^ k % 2 == 1 := by
      funext k
      simp only [Function.comp]
      rw [Nat.div_div_eq_div_mul, Nat.succ_eq_add_one, Nat.pow_succ, Nat.mul_comm]
    rw [e1]
    show bfold (hb r (x / 2 ^ 0 % 2 == 1)) _ = _
    rw [ih _ _ (by rw [Nat.pow_succ] at hx; omega), hs]
    congr 1
    rw [Nat.pow_zero, Nat.div_one]
    have e2 : ((x % 2 == 1) : Bool).toNat = x % 2 := by
      rcases Nat.mod_two_eq_zero_or_one x with e | e <;> rw [e] <;> rfl
    unfold hb
    rw [e2]
    have e3 : r ^^^ x = (r ^^^ x % 2) ^^^ 2 * (x / 2) := by
      have := cut_at 1 x
      rw [Nat.pow_one] at this
      rw [Nat.xor_assoc, Nat.xor_comm (x % 2), this]
    rw [e3, h_xor (r ^^^ x % 2), h_double]

theorem bits_fold (r : Nat) (l : List Nat) (hl : ∀ x ∈ l, x < 256) : bfold r (bitsL l) = fold r l := by
  induction l generalizing r with
  | nil => rfl
  | cons x l ih =>
    show bfold r (bit8 x ++ bitsL l) = fold (st r x) l
    unfold bfold
    rw [List.foldl_append]
    have e := bitsN_fold 8 r x (hl x (by simp))
    unfold bfold at e
    show List.foldl hb (List.foldl hb r (bit8 x)) (bitsL l) = _
    unfold bit8
    rw [e]
    exact ih _ fun y hy => hl y (by simp [hy])

end Crc

theorem info_bool : (Tryd.prog.info? 4).map (fun i => (i.zero, i.size, i.bytes)) = some (some (.bool false), 1, 1) := by kernel_rfl

/-- A row of bits that the call made, opened. -/
theorem ownB_open {w : World} {base : Nat} {v : Value} {bs : List Bool} (h : w.ownsRow base 4 1 v bs.length (bs.map .bool)) :
    ∃ ao c, v = .slice ao bs.length c ∧ bs.length ≤ c ∧ c ≤ 9223372036854775807 ∧ Hid (0 < bs.length → ∃ g, ao = some ⟨g, 0, none⟩ ∧ ∀ j, j < bs.length → w.cell? ⟨g, j, none⟩ = some (.bool (bs.getD j false))) := by
  obtain ⟨h1, h2⟩ := h
  rcases h2 with ⟨rfl, hn⟩ | ⟨g, cap, cur, rfl, hb, hg, hn, hc, hs, ht⟩
  · exact ⟨none, 0, by rw [hn], by omega, by omega, fun h => by omega⟩
  · refine ⟨some ⟨g, 0, none⟩, cap, rfl, hn, by unfold maxLen at hc; omega, fun _ => ⟨g, rfl, fun j hj => ?_⟩⟩
    have e : (cur.toList.take (bs.length * 1))[j]? = some (.bool (bs.getD j false)) := by
      rw [ht]
      simp [List.getD, hj]
    rw [List.getElem?_take, if_pos (by omega)] at e
    simp only [World.cell?, hg]
    simpa using e

/-- halves: a remainder, behind one bit. -/
theorem halves_any (r : Nat) (b : Bool) (w : World) (hr : r < 4294967296) :
    Calls Tryd.prog 35 #[.int .u32 r, .bool b] w fun e w' => e = .returned (.int .u32 (Crc.hb r b : Nat)) ∧ w = w' := by
  have HE := Lib.hid (Crc.hb_eq r b)
  have hm : ((r : Int) % 2 == 1) = (r % 2 == 1) := by
    rcases Nat.mod_two_eq_zero_or_one r with e | e
    · have : (r : Int) % 2 = 0 := by omega
      rw [e, this]
      rfl
    · have : (r : Int) % 2 = 1 := by omega
      rw [e, this]
      rfl
  generalize (r % 2 == 1) = o at hm HE
  have hd : (r : Int).tdiv 2 = ((r / 2 : Nat) : Int) := by
    rw [Int.tdiv_eq_ediv_of_nonneg (Int.natCast_nonneg _)]
    omega
  have hD : r / 2 < 4294967296 := by omega
  generalize r / 2 = D at hd HE hD
  have HX : Hid (bits .xor .u32 (D : Int) 3988292384 = ((D ^^^ 3988292384 : Nat) : Int)) := u32_xor_nat D 3988292384 hD (by decide)
  cases o <;> cases b
  all_goals
    first
    | rw [if_pos (by rfl)] at HE
      go_enter Tryd.func35, Tryd.ntmps35
      go_wp2
      rw [HX.out]
      go_ret
      rw [HE.out]
      exact ⟨rfl, rfl⟩
    | rw [if_neg (by decide), Nat.xor_zero] at HE
      go_enter Tryd.func35, Tryd.ntmps35
      go_wp2
      go_ret
      rw [HE.out]
      exact ⟨rfl, rfl⟩

end Go.Proofs.YtpdkfafnffihjaaDoor
