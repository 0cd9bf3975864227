/-
  The contract of package frame's number: at most four bytes as one number, the highest first.
-/
import Derived.Test.YtpdkfafnffihjaaDoorSealed
namespace Go.Proofs.YtpdkfafnffihjaaDoor
open Go.RowKit

/-- Bytes as one number, the highest first. -/
def beN (l : List Nat) : Nat := l.foldl (fun n x => 256 * n + x) 0

theorem beN_snoc (l : List Nat) (x : Nat) : beN (l ++ [x]) = 256 * beN l + x := by simp [beN, List.foldl_append]

theorem beN_lt : ∀ (n : Nat) (l : List Nat), l.length = n → (∀ x ∈ l, x < 256) → beN l < 256 ^ n
  | 0, l, h, _ => by
    obtain rfl := List.eq_nil_of_length_eq_zero h
    decide
  | n + 1, l, h, hb => by
    obtain ⟨m, x, rfl⟩ : ∃ m x, l = m ++ [x] := ⟨l.dropLast, l.getLast (by intro h2; rw [h2] at h; cases h), (List.dropLast_concat_getLast _).symm⟩
    have h2 : m.length = n := by simpa using h
    have := beN_lt n m h2 fun y hy => hb y (List.mem_append_left _ hy)
    have hx := hb x (by simp)
    rw [beN_snoc, Nat.pow_succ]
    omega

theorem or_step (a b : Nat) (ha : a < 16777216) (hb : b < 256) : bits .or .u32 ((a : Int) * 256) (b : Int) = ((256 * a + b : Nat) : Int) := by
  have e1 : (a : Int) * 256 = ((a * 256 : Nat) : Int) := by simp
  rw [e1, u32_or_nat _ _ (by omega) (by omega)]
  have := Nat.two_pow_add_eq_or_of_lt (i := 8) (b := b) (by omega) a
  rw [Nat.mul_comm a 256]
  exact congrArg Int.ofNat this.symm

set_option maxRecDepth 100000 in
set_option maxHeartbeats 2000000 in
theorem number_any {l1 h1 : Nat} (l : List Nat) (w : World) (v : Value) (hl : RdI .u8 l1 h1 w v (ints l)) (rb : ∀ x ∈ l, x < 256) (h4 : l.length ≤ 4) :
    Calls Tryd.prog 28 #[v] w fun e w' => e = .returned (.int .u32 (beN l : Nat)) ∧ w' = w := by
  obtain ⟨ao, c, rfl, hb1, hb2, hcl⟩ := hl.open
  rw [ints_len] at hb1 ⊢
  have HCL := Lib.hid hcl
  have RB := Lib.hid rb
  clear hl hcl rb
  go_enter Tryd.func28, Tryd.ntmps28
  go_wp2_with fail
  go_loopw [3, 5, 8] (fun r x i wr => ∃ k R : Nat, k ≤ l.length ∧ i = .int .i64 k ∧ r = .int .u32 R ∧ Hid (beN (l.take k) = R) ∧ wr = w) (fun _ _ i _ => l.length - (intOf i).toNat)
  case atStart => exact ⟨0, 0, Nat.zero_le _, rfl, rfl, rfl, rfl⟩
  case round =>
    obtain ⟨k, R, hk, rfl, rfl, HR, rfl⟩ := hrel
    by_cases hlt : k < l.length
    · obtain ⟨b1, o1, rfl, _, _, hc1⟩ := cl_nat HCL.out (by omega)
      have c1 := hc1 k hlt
      have hx := nat_getD_byte RB.out k
      have HS : Hid (beN (l.take (k + 1)) = 256 * R + l.getD k 0) := by
        show _ = _
        rw [take_snoc_nat hlt, beN_snoc, HR.out]
      have hRB : R < 16777216 := by
        rw [← HR.out]
        have h := beN_lt k (l.take k) (by rw [List.length_take]; omega) fun x hx => RB.out x (List.mem_of_mem_take hx)
        have h2 : 256 ^ k ≤ 256 ^ 3 := Nat.pow_le_pow_right (by decide) (by omega)
        omega
      clear hc1
      generalize l.getD k 0 = x at c1 hx HS
      have e1 := or_step R x hRB hx
      go_wp2_with fail
      go_roundw
      case rel => exact ⟨k + 1, 256 * R + x, by omega, by go_num, by go_num, HS, by first | rfl | trivial⟩
      case measure => simp [intOf]; omega
    · obtain rfl : k = l.length := by omega
      rw [List.take_length] at HR
      go_wp2_with fail
      go_returns
      rw [HR.out]
      exact ⟨rfl, rfl⟩

end Go.Proofs.YtpdkfafnffihjaaDoor
