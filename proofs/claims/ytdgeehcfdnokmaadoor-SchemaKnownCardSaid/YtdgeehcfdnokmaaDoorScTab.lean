/-
  The landed schema: what its arrays hold; its small functions.
-/
import Derived.Test.YtdgeehcfdnokmaaDoorScSpec
namespace Go.Proofs.YtdgeehcfdnokmaaDoor
open Go.RowKit

namespace Sc
/-- Where the arrays say what holds for a kind. -/
def plc (k : Int) : Nat := if k < 1 ∨ 4 < k then 0 else k.toNat
theorem plc_lt (k : Int) : plc k < 5 := by
  unfold plc
  split <;> omega
def mvL : List (Int × Int) := [(0, 0), (0, 0), (0, 0), (0, 0), (1, 16)]
def poL : List (Int × Int) := [(1, 0), (1, 1), (1, 3), (1, 2), (1, 2)]
def flL : List Bool := [false, true, false, false, false]
def opL : List (Int × Int) := [(1, 0), (1, 1), (2, 2), (3, 4), (5, 5)]
/-- From one number to another one. -/
def inS (s : Int × Int) (n : Int) : Bool := decide (s.1 ≤ n ∧ n ≤ s.2)
end Sc

/-- The arrays hold what the text lays. -/
structure STabs (w : World) : Prop where
  mv : ∀ k, k < 5 → w.cell? ⟨3, k * 2, none⟩ = some (.int .i64 (Sc.mvL.getD k (0, 0)).1) ∧ w.cell? ⟨3, k * 2 + 1, none⟩ = some (.int .i64 (Sc.mvL.getD k (0, 0)).2)
  po : ∀ k, k < 5 → w.cell? ⟨1, k * 2, none⟩ = some (.int .i64 (Sc.poL.getD k (0, 0)).1) ∧ w.cell? ⟨1, k * 2 + 1, none⟩ = some (.int .i64 (Sc.poL.getD k (0, 0)).2)
  fl : ∀ k, k < 5 → w.cell? ⟨2, k, none⟩ = some (.bool (Sc.flL.getD k false))
  op : ∀ k, k < 5 → w.cell? ⟨0, k * 2, none⟩ = some (.int .i64 (Sc.opL.getD k (0, 0)).1) ∧ w.cell? ⟨0, k * 2 + 1, none⟩ = some (.int .i64 (Sc.opL.getD k (0, 0)).2)

theorem STabs.keep {w w' : World} (h : STabs w) (k : Kp 0 0 w w') : STabs w' :=
  ⟨fun i hi => ⟨k.cell (h.mv i hi).1 (.inr (Nat.zero_le _)), k.cell (h.mv i hi).2 (.inr (Nat.zero_le _))⟩, fun i hi => ⟨k.cell (h.po i hi).1 (.inr (Nat.zero_le _)), k.cell (h.po i hi).2 (.inr (Nat.zero_le _))⟩, fun i hi => k.cell (h.fl i hi) (.inr (Nat.zero_le _)), fun i hi => ⟨k.cell (h.op i hi).1 (.inr (Nat.zero_le _)), k.cell (h.op i hi).2 (.inr (Nat.zero_le _))⟩⟩

/-- (span).has: from the first to the last. -/
theorem has_any (s : Int × Int) (n : Int) (w : World) :
    Calls Tryd.prog 30 #[.agg #[.int .i64 s.1, .int .i64 s.2], .int .i64 n] w fun r w' => r = .returned (.bool (Sc.inS s n)) ∧ Kp 0 0 w w' := by
  obtain ⟨a, b⟩ := s
  unfold Sc.inS
  dsimp only
  have HK : Hid (Kp 0 0 w (w.alloc (.cells #[.int .i64 a, .int .i64 b] 58))) := (Kp.refl _ _ _).alloc _
  by_cases h1 : a ≤ n
  · by_cases h2 : n ≤ b
    · go_enter Tryd.func30, Tryd.ntmps30
      go_wp2_with fail
      go_returns
      exact ⟨by simp [h1, h2], HK.out⟩
    · go_enter Tryd.func30, Tryd.ntmps30
      go_wp2_with fail
      go_returns
      exact ⟨by simp [h2], HK.out⟩
  · go_enter Tryd.func30, Tryd.ntmps30
    go_wp2_with fail
    go_returns
    exact ⟨by simp; omega, HK.out⟩

/-- place. -/
theorem place_any (k : Int) (w : World) :
    Calls Tryd.prog 29 #[.int .i64 k] w fun r w' => r = .returned (.int .i64 (Sc.plc k : Nat)) ∧ w' = w := by
  by_cases h1 : k < 1
  · have HP : Hid ((Sc.plc k : Nat) = 0) := if_pos (.inl h1)
    go_enter Tryd.func29, Tryd.ntmps29
    go_wp2_with fail
    go_returns
    exact ⟨by rw [HP.out]; rfl, rfl⟩
  · by_cases h2 : 4 < k
    · have HP : Hid ((Sc.plc k : Nat) = 0) := if_pos (.inr h2)
      go_enter Tryd.func29, Tryd.ntmps29
      go_wp2_with fail
      go_returns
      exact ⟨by rw [HP.out]; rfl, rfl⟩
    · have HP : Hid (((Sc.plc k : Nat) : Int) = k) := by
        show _ = _
        unfold Sc.plc
        rw [if_neg (by omega)]
        omega
      go_enter Tryd.func29, Tryd.ntmps29
      go_wp2_with fail
      go_returns
      exact ⟨by rw [HP.out]; rfl, rfl⟩

/-- below: from 0 to the end. -/
theorem below_any (a b : Int) (w : World) :
    Calls Tryd.prog 31 #[.int .i64 a, .int .i64 b] w fun r w' => r = .returned (.bool (decide (0 ≤ a ∧ a < b))) ∧ w' = w := by
  by_cases h1 : 0 ≤ a
  · by_cases h2 : a < b
    · go_enter Tryd.func31, Tryd.ntmps31
      go_wp2_with fail
      go_returns
      exact ⟨by simp [h1, h2], rfl⟩
    · go_enter Tryd.func31, Tryd.ntmps31
      go_wp2_with fail
      go_returns
      exact ⟨by simp [h2], rfl⟩
  · go_enter Tryd.func31, Tryd.ntmps31
    go_wp2_with fail
    go_returns
    exact ⟨by simp; omega, rfl⟩

set_option maxHeartbeats 1000000 in
/-- misplaced: a number of a move is out of its place. -/
theorem mis_any (m : Mv) (w : World) :
    Calls Tryd.prog 35 #[.agg #[.int .i64 m.f, .int .i64 m.t, .int .i64 m.n, .int .i64 m.l]] w fun r w' => r = .returned (.bool (Sc.badM m)) ∧ Kp 0 0 w w' := by
  obtain ⟨f, t, n, l⟩ := m
  unfold Sc.badM
  dsimp only
  have HK : Hid (Kp 0 0 w (w.alloc (.cells #[.int .i64 f, .int .i64 t, .int .i64 n, .int .i64 l] 39))) := (Kp.refl _ _ _).alloc _
  by_cases h1 : f < 0
  · go_enter Tryd.func35, Tryd.ntmps35
    go_wp2_with fail
    go_returns
    exact ⟨by simp [h1], HK.out⟩
  by_cases h2 : t < 0
  · go_enter Tryd.func35, Tryd.ntmps35
    go_wp2_with fail
    go_returns
    exact ⟨by simp [h2], HK.out⟩
  by_cases h3 : n = -1
  · subst h3
    by_cases h4 : l = 0
    · subst h4
      go_enter Tryd.func35, Tryd.ntmps35
      go_wp2_with fail
      go_returns
      exact ⟨by simp [h1, h2], HK.out⟩
    · have h4b : (l != 0) = true := by simp [h4]
      go_enter Tryd.func35, Tryd.ntmps35
      go_wp2_with fail
      go_returns
      exact ⟨by simp [h4], HK.out⟩
  · have h3b : (n == -1) = false := by simp [h3]
    go_enter Tryd.func35, Tryd.ntmps35
    go_wp2_with fail
    go_returns
    exact ⟨by simp [h1, h2, h3], HK.out⟩

set_option maxHeartbeats 1000000 in
/-- is: the type has the field, and it is of this kind. -/
theorem is_any {S : Nat → Prop} {fc : Nat} (T : List Fl) (i k : Int) (w : World) (fo : Option Addr) (hr : RdS flE 4 w S (.slice fo T.length fc) T) (hk : k ≠ 0) :
    Calls Tryd.prog 37 #[.agg #[.slice fo T.length fc], .int .i64 i, .int .i64 k] w fun r w' => r = .returned (.bool (decide (Sc.kind T i = k))) ∧ Kp 0 0 w w' := by
  have HCL := Lib.hid hr.cl
  have hb : T.length ≤ 9223372036854775807 := by
    obtain ⟨_, _, he, h1, h2, _⟩ := hr.open
    omega
  have HK : Hid (Kp 0 0 w (w.alloc (.cells #[.slice fo T.length fc] 45))) := (Kp.refl _ _ _).alloc _
  clear hr
  by_cases h1 : 0 ≤ i
  · by_cases h2 : i < (T.length : Int)
    · obtain ⟨n, rfl⟩ := Int.eq_ofNat_of_zero_le h1
      have hn : n < T.length := by omega
      obtain ⟨f, hf⟩ : ∃ f, T[n]? = some f := ⟨_, List.getElem?_eq_getElem hn⟩
      have HKI := Lib.hid (Sc.kind_in hf)
      obtain ⟨b, o, mo, mc, rfl, _, c0, _, _, _, _, _, _⟩ := fl_at HCL.out hf
      have c0 := HK.out.cell c0 (.inr (Nat.zero_le _))
      clear hf
      by_cases h3 : f.k = k
      · subst h3
        have h3b : (f.k == f.k) = true := by simp
        go_enter Tryd.func37, Tryd.ntmps37
        go_wp2_with (go_at_call 31; refine (below_any _ _ _).mono ?_; rintro r w2 ⟨rfl, rfl⟩)
        go_returns
        exact ⟨by rw [HKI.out]; simp, HK.out⟩
      · have h3b : (f.k == k) = false := by simp [h3]
        go_enter Tryd.func37, Tryd.ntmps37
        go_wp2_with (go_at_call 31; refine (below_any _ _ _).mono ?_; rintro r w2 ⟨rfl, rfl⟩)
        go_returns
        exact ⟨by rw [HKI.out]; simp [h3], HK.out⟩
    · have HO : Hid (Sc.kind T i = 0) := Sc.kind_out (.inr (by omega))
      go_enter Tryd.func37, Tryd.ntmps37
      go_wp2_with (go_at_call 31; refine (below_any _ _ _).mono ?_; rintro r w2 ⟨rfl, rfl⟩)
      go_returns
      exact ⟨by rw [HO.out]; simp [Ne.symm hk], HK.out⟩
  · have HO : Hid (Sc.kind T i = 0) := Sc.kind_out (.inl (by omega))
    go_enter Tryd.func37, Tryd.ntmps37
    go_wp2_with (go_at_call 31; refine (below_any _ _ _).mono ?_; rintro r w2 ⟨rfl, rfl⟩)
    go_returns
    exact ⟨by rw [HO.out]; simp [Ne.symm hk], HK.out⟩

end Go.Proofs.YtdgeehcfdnokmaaDoor
