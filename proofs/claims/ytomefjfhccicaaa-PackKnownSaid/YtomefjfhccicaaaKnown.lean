/-
  PackKnown as a contract.
-/
import Derived.Test.YtomefjfhccicaaaForm
import Derived.Test.YtomefjfhccicaaaBack
import Derived.Test.YtomefjfhccicaaaCut
import Derived.Test.YtomefjfhccicaaaTells
import Derived.Deep.OwnRows
namespace Go.Proofs.Ytomefjfhccicaaa
open Go.RowKit

theorem info_u8k : (Try.prog.info? 5).map (fun i => (i.zero, i.size, i.bytes)) = some (some (.int .u8 0), 1, 1) := by kernel_rfl

/-- make([]byte, k), as it reads. -/
theorem made_rd (w : World) (k : Nat) (hk : k ≤ 1000) : RdI .u8 w.heap.size (w.heap.size + 1) (w.alloc (.cells (madeCells #[.int .u8 0] k) 5)) (.slice (some ⟨w.heap.size, 0, none⟩) k k) (List.replicate k 0) := by
  refine ⟨by simp, some ⟨w.heap.size, 0, none⟩, k, by rw [List.length_replicate], by simp, by unfold maxLen; omega, (fun h => by cases h), fun j u hu => ⟨w.heap.size, 0, rfl, Nat.le_refl _, by omega, ?_⟩⟩
  have hlt := (List.getElem?_eq_some_iff.1 hu).1
  simp only [List.length_map, List.length_replicate] at hlt
  rw [Nat.zero_add, (World.rowIs_made w (.int .u8 0) k 5).cell hlt]
  rw [← hu]
  simp [hlt]

/-- The things of a round: numbers, and last a row of k zeros. -/
def T3 (n m : Int) (k : Nat) (v : Value) : Ths := ⟨fun i => decide (i = 2), fun i => if i = 0 then n else if i = 1 then m else 0, fun i => if i = 2 then List.replicate k 0 else [], fun i => if i = 2 then v else .slice none 0 0⟩
def T2 (m : Int) (k : Nat) (v : Value) : Ths := ⟨fun i => decide (i = 1), fun i => if i = 0 then m else 0, fun i => if i = 1 then List.replicate k 0 else [], fun i => if i = 1 then v else .slice none 0 0⟩

theorem back_known (n m : Int) (k : Nat) (w : World) (hk : k ≤ 1000) (hn : -9223372036854775808 ≤ n ∧ n ≤ 9223372036854775807) (hm : -9223372036854775808 ≤ m ∧ m ≤ 9223372036854775807) :
    Calls Try.prog 5 #[.slice (some ⟨w.heap.size + 1, 0, none⟩) 3 3] ((w.alloc (.cells (madeCells #[.int .u8 0] k) 5)).alloc (.cells #[.bool false, .int .i64 n, .slice none 0 0, .bool false, .int .i64 m, .slice none 0 0, .bool true, .int .i64 0, .slice (some ⟨w.heap.size, 0, none⟩) k k] 51))
      fun e w' => e = .returned (.bool true) ∧ Kp 0 0 w w' := by
  have hr := (made_rd w k hk).keep0 ((Kp.refl 0 0 _).alloc (.cells #[.bool false, .int .i64 n, .slice none 0 0, .bool false, .int .i64 m, .slice none 0 0, .bool true, .int .i64 0, .slice (some ⟨w.heap.size, 0, none⟩) k k] 51))
  refine (back_any (n := 3) (T3 n m k (.slice (some ⟨w.heap.size, 0, none⟩) k k)) _ _ 3 ⟨Nat.le_refl _, by decide⟩ (by decide) (fun _ => ⟨w.heap.size + 1, 0, rfl, by simp, fun i hi => ?_⟩) (fun i hi => ?_) (fun i hi => ?_)).mono ?_
  · have hs : w.heap.size + 1 = (w.alloc (.cells (madeCells #[.int .u8 0] k) 5)).heap.size := by simp
    rw [hs]
    generalize w.alloc (.cells (madeCells #[.int .u8 0] k) 5) = W
    match i, hi with
    | 0, _ => simp [T3]
    | 1, _ => simp [T3]
    | 2, _ => simp [T3]
  · match i, hi with
    | 0, _ => exact RdI.nil _ _ _ _
    | 1, _ => exact RdI.nil _ _ _ _
    | 2, _ => exact hr.wide (Nat.zero_le _) (by simp)
  · have hz : ∀ y ∈ List.replicate k (0 : Int), 0 ≤ y ∧ y < 256 := fun y hy => by rw [(List.mem_replicate.1 hy).2]; omega
    match i, hi with
    | 0, _ => exact ⟨hn, (fun y hy => by simp [T3] at hy), Nat.zero_le _⟩
    | 1, _ => exact ⟨hm, (fun y hy => by simp [T3] at hy), Nat.zero_le _⟩
    | 2, _ => exact ⟨by simp [T3], hz, by show (List.replicate k (0 : Int)).length ≤ _; rw [List.length_replicate]; omega⟩
  · rintro e w' ⟨rfl, hk⟩
    exact ⟨rfl, (((Kp.refl 0 0 w).alloc _).alloc _).trans hk⟩

theorem cut_known (m : Int) (k : Nat) (w : World) (hk : k ≤ 1000) (hm : -9223372036854775808 ≤ m ∧ m ≤ 9223372036854775807) :
    Calls Try.prog 6 #[.slice (some ⟨w.heap.size + 1, 0, none⟩) 2 2, .int .i64 k] ((w.alloc (.cells (madeCells #[.int .u8 0] k) 5)).alloc (.cells #[.bool false, .int .i64 m, .slice none 0 0, .bool true, .int .i64 0, .slice (some ⟨w.heap.size, 0, none⟩) k k] 51))
      fun e w' => e = .returned (.bool true) ∧ Kp 0 0 w w' := by
  have hr := (made_rd w k hk).keep0 ((Kp.refl 0 0 _).alloc (.cells #[.bool false, .int .i64 m, .slice none 0 0, .bool true, .int .i64 0, .slice (some ⟨w.heap.size, 0, none⟩) k k] 51))
  refine (cut_any (n := 2) (T2 m k (.slice (some ⟨w.heap.size, 0, none⟩) k k)) _ _ _ 2 (by omega) (by omega) ⟨Nat.le_refl _, by decide⟩ (by decide) (fun _ => ⟨w.heap.size + 1, 0, rfl, by simp, fun i hi => ?_⟩) (fun i hi => ?_) (fun i hi => ?_)).mono ?_
  · have hs : w.heap.size + 1 = (w.alloc (.cells (madeCells #[.int .u8 0] k) 5)).heap.size := by simp
    rw [hs]
    generalize w.alloc (.cells (madeCells #[.int .u8 0] k) 5) = W
    match i, hi with
    | 0, _ => simp [T2]
    | 1, _ => simp [T2]
  · match i, hi with
    | 0, _ => exact RdI.nil _ _ _ _
    | 1, _ => exact hr.wide (Nat.zero_le _) (by simp)
  · have hz : ∀ y ∈ List.replicate k (0 : Int), 0 ≤ y ∧ y < 256 := fun y hy => by rw [(List.mem_replicate.1 hy).2]; omega
    match i, hi with
    | 0, _ => exact ⟨hm, (fun y hy => by simp [T2] at hy), Nat.zero_le _⟩
    | 1, _ => exact ⟨by simp [T2], hz, by show (List.replicate k (0 : Int)).length ≤ _; rw [List.length_replicate]; omega⟩
  · rintro e w' ⟨rfl, hk⟩
    exact ⟨rfl, (((Kp.refl 0 0 w).alloc _).alloc _).trans hk⟩

/-- The row that a round of the heads lays: a head, and 1 to 8 behind it. -/
def headRow (k : Nat) : List Int := [(k : Int), 1, 2, 3, 4, 5, 6, 7, 8]

theorem heads_all : ∀ k, k < 256 → (k = 0 ∧ (Pk.rdInt (headRow k) 0).1 = 0) ∨ (1 ≤ k ∧ k ≤ 8 ∧ 0 < (Pk.rdInt (headRow k) 0).1) ∨
    (9 ≤ k ∧ k ≤ 16 ∧ (Pk.rdInt (headRow k) 0).1 = 0 ∧ Pk.dne (Pk.rdInt (headRow k) 0).2.1 (Pk.rdInt (headRow k) 0).2.2 = 5) ∨
    (17 ≤ k ∧ k ≤ 24 ∧ (Pk.rdInt (headRow k) 0).1 < 0) ∨
    (25 ≤ k ∧ (Pk.rdInt (headRow k) 0).1 = 0 ∧ Pk.dne (Pk.rdInt (headRow k) 0).2.1 (Pk.rdInt (headRow k) 0).2.2 = 5) := by
  decide +kernel

theorem head_range {k : Nat} (h : k < 256) : ∀ y ∈ headRow k, 0 ≤ y ∧ y < 256 := by
  intro y hy
  simp only [headRow, List.mem_cons, List.not_mem_nil, or_false] at hy
  omega

theorem rdg_known (w : World) : RdR (w.alloc (.cells #[.int .i64 0, .int .i64 0, .int .i64 2, .int .i64 0, .int .i64 0, .int .i64 0] 37)).heap.size (w.alloc (.cells #[.int .i64 0, .int .i64 0, .int .i64 2, .int .i64 0, .int .i64 0, .int .i64 0] 37))
    (.slice (some ⟨w.heap.size, 0, none⟩) 3 3) 3 (fun i => if i = 1 then 2 else 0) (fun _ => 0) := by
  refine ⟨_, 3, rfl, Nat.le_refl _, by decide, fun _ => ⟨w.heap.size, 0, rfl, by simp, fun i hi => ?_⟩⟩
  match i, hi with
  | 0, _ => simp
  | 1, _ => simp
  | 2, _ => simp

theorem rdg_in : InR 3 (fun i => if i = 1 then 2 else 0) (fun _ => 0) := fun i _ => by
  refine ⟨?_, by show (-9223372036854775808 : Int) ≤ 0 ∧ (0 : Int) ≤ _; omega⟩
  show _ ≤ (if i = 1 then (2 : Int) else 0) ∧ (if i = 1 then (2 : Int) else 0) ≤ _
  split <;> omega

/-- The rows whose numbers are not in their shortest form. -/
def badL (k : Nat) : List Int := ([[1, 0], [9], [16], [8, 128, 0, 0, 0, 0, 0, 0, 0], [24, 128, 0, 0, 0, 0, 0, 0, 1], [17, 0]] : List (List Int)).getD k []

theorem bad_all : ∀ k, k < 6 → (Pk.rdInt (badL k) 0).1 = 0 ∧ Pk.dne (Pk.rdInt (badL k) 0).2.1 (Pk.rdInt (badL k) 0).2.2 = 5 ∧ (Pk.rdInt (Pk.rdInt (badL k) 0).2.1 (Pk.rdInt (badL k) 0).2.2).1 = 0 := by
  decide +kernel

theorem bad_range : ∀ k, k < 6 → ∀ y ∈ badL k, 0 ≤ y ∧ y < 256 := by
  decide +kernel

/-- Those rows, laid. -/
def BadC (lo hi : Nat) (w : World) (b : Nat) : Prop := lo ≤ b ∧ b < hi ∧ ∀ k, k < 6 → ∃ v, w.cell? ⟨b, k, none⟩ = some v ∧ RdI .u8 lo hi w v (badL k)

theorem BadC.keep0 {lo hi : Nat} {w w' : World} {b : Nat} (h : BadC lo hi w b) (hk : Kp 0 0 w w') : BadC lo hi w' b :=
  ⟨h.1, h.2.1, fun k hk6 => by
    obtain ⟨v, h1, h2⟩ := h.2.2 k hk6
    exact ⟨v, hk.cell h1 (.inr (Nat.zero_le _)), h2.keep0 hk⟩⟩

theorem lit_at (w w' : World) (zs : List Int) (h : zs.length ≤ maxLen) (hi : Nat) (hk : Kp 0 0 (w.alloc (.cells (zs.map (.int .u8)).toArray 5)) w') (lo : Nat) (hlo : lo ≤ w.heap.size) (hhi : w.heap.size < hi) : RdI .u8 lo hi w' (.slice (some ⟨w.heap.size, 0, none⟩) zs.length zs.length) zs :=
  ((lit_rd .u8 5 w zs h).keep0 hk).wide hlo hhi

theorem bad_lit (w : World) : BadC w.heap.size (w.heap.size + 1 + 1 + 1 + 1 + 1 + 1 + 1) (((((((w.alloc (.cells #[.int .u8 1, .int .u8 0] 5)).alloc (.cells #[.int .u8 9] 5)).alloc (.cells #[.int .u8 16] 5)).alloc (.cells #[.int .u8 8, .int .u8 128, .int .u8 0, .int .u8 0, .int .u8 0, .int .u8 0, .int .u8 0, .int .u8 0, .int .u8 0] 5)).alloc (.cells #[.int .u8 24, .int .u8 128, .int .u8 0, .int .u8 0, .int .u8 0, .int .u8 0, .int .u8 0, .int .u8 0, .int .u8 1] 5)).alloc (.cells #[.int .u8 17, .int .u8 0] 5)).alloc (.cells #[.slice (some ⟨w.heap.size, 0, none⟩) 2 2, .slice (some ⟨w.heap.size + 1, 0, none⟩) 1 1, .slice (some ⟨w.heap.size + 1 + 1, 0, none⟩) 1 1, .slice (some ⟨w.heap.size + 1 + 1 + 1, 0, none⟩) 9 9, .slice (some ⟨w.heap.size + 1 + 1 + 1 + 1, 0, none⟩) 9 9, .slice (some ⟨w.heap.size + 1 + 1 + 1 + 1 + 1, 0, none⟩) 2 2] 22)) (w.heap.size + 1 + 1 + 1 + 1 + 1 + 1) ∧ Kp 0 0 w (((((((w.alloc (.cells #[.int .u8 1, .int .u8 0] 5)).alloc (.cells #[.int .u8 9] 5)).alloc (.cells #[.int .u8 16] 5)).alloc (.cells #[.int .u8 8, .int .u8 128, .int .u8 0, .int .u8 0, .int .u8 0, .int .u8 0, .int .u8 0, .int .u8 0, .int .u8 0] 5)).alloc (.cells #[.int .u8 24, .int .u8 128, .int .u8 0, .int .u8 0, .int .u8 0, .int .u8 0, .int .u8 0, .int .u8 0, .int .u8 1] 5)).alloc (.cells #[.int .u8 17, .int .u8 0] 5)).alloc (.cells #[.slice (some ⟨w.heap.size, 0, none⟩) 2 2, .slice (some ⟨w.heap.size + 1, 0, none⟩) 1 1, .slice (some ⟨w.heap.size + 1 + 1, 0, none⟩) 1 1, .slice (some ⟨w.heap.size + 1 + 1 + 1, 0, none⟩) 9 9, .slice (some ⟨w.heap.size + 1 + 1 + 1 + 1, 0, none⟩) 9 9, .slice (some ⟨w.heap.size + 1 + 1 + 1 + 1 + 1, 0, none⟩) 2 2] 22)) := by
  have k0 : Kp 0 0 w w := Kp.refl 0 0 w
  obtain ⟨w1, e1⟩ : ∃ x, x = w.alloc (.cells #[.int .u8 1, .int .u8 0] 5) := ⟨_, rfl⟩
  obtain ⟨w2, e2⟩ : ∃ x, x = w1.alloc (.cells #[.int .u8 9] 5) := ⟨_, rfl⟩
  obtain ⟨w3, e3⟩ : ∃ x, x = w2.alloc (.cells #[.int .u8 16] 5) := ⟨_, rfl⟩
  obtain ⟨w4, e4⟩ : ∃ x, x = w3.alloc (.cells #[.int .u8 8, .int .u8 128, .int .u8 0, .int .u8 0, .int .u8 0, .int .u8 0, .int .u8 0, .int .u8 0, .int .u8 0] 5) := ⟨_, rfl⟩
  obtain ⟨w5, e5⟩ : ∃ x, x = w4.alloc (.cells #[.int .u8 24, .int .u8 128, .int .u8 0, .int .u8 0, .int .u8 0, .int .u8 0, .int .u8 0, .int .u8 0, .int .u8 1] 5) := ⟨_, rfl⟩
  obtain ⟨w6, e6⟩ : ∃ x, x = w5.alloc (.cells #[.int .u8 17, .int .u8 0] 5) := ⟨_, rfl⟩
  have s1 : w1.heap.size = w.heap.size + 1 := by rw [e1]; simp
  have s2 : w2.heap.size = w.heap.size + 1 + 1 := by rw [e2]; simp [s1]
  have s3 : w3.heap.size = w.heap.size + 1 + 1 + 1 := by rw [e3]; simp [s2]
  have s4 : w4.heap.size = w.heap.size + 1 + 1 + 1 + 1 := by rw [e4]; simp [s3]
  have s5 : w5.heap.size = w.heap.size + 1 + 1 + 1 + 1 + 1 := by rw [e5]; simp [s4]
  have s6 : w6.heap.size = w.heap.size + 1 + 1 + 1 + 1 + 1 + 1 := by rw [e6]; simp [s5]
  rw [← e1, ← e2, ← e3, ← e4, ← e5, ← e6]
  obtain ⟨W, eW⟩ : ∃ x, x = w6.alloc (.cells #[.slice (some ⟨w.heap.size, 0, none⟩) 2 2, .slice (some ⟨w.heap.size + 1, 0, none⟩) 1 1, .slice (some ⟨w.heap.size + 1 + 1, 0, none⟩) 1 1, .slice (some ⟨w.heap.size + 1 + 1 + 1, 0, none⟩) 9 9, .slice (some ⟨w.heap.size + 1 + 1 + 1 + 1, 0, none⟩) 9 9, .slice (some ⟨w.heap.size + 1 + 1 + 1 + 1 + 1, 0, none⟩) 2 2] 22) := ⟨_, rfl⟩
  rw [← eW]
  have q7 : Kp 0 0 w6 W := by rw [eW]; exact (Kp.refl 0 0 w6).alloc _
  have q6 : Kp 0 0 w5 W := Kp.trans (by rw [e6]; exact (Kp.refl 0 0 w5).alloc _) q7
  have q5 : Kp 0 0 w4 W := Kp.trans (by rw [e5]; exact (Kp.refl 0 0 w4).alloc _) q6
  have q4 : Kp 0 0 w3 W := Kp.trans (by rw [e4]; exact (Kp.refl 0 0 w3).alloc _) q5
  have q3 : Kp 0 0 w2 W := Kp.trans (by rw [e3]; exact (Kp.refl 0 0 w2).alloc _) q4
  have q2 : Kp 0 0 w1 W := Kp.trans (by rw [e2]; exact (Kp.refl 0 0 w1).alloc _) q3
  have q1 : Kp 0 0 w W := Kp.trans (by rw [e1]; exact (Kp.refl 0 0 w).alloc _) q2
  have r0 := lit_at w W [1, 0] (by decide) (w.heap.size + 1 + 1 + 1 + 1 + 1 + 1 + 1) (by
    have := q2
    rw [e1] at this
    exact this) w.heap.size (by omega) (by omega)
  have r1 := lit_at w1 W [9] (by decide) (w.heap.size + 1 + 1 + 1 + 1 + 1 + 1 + 1) (by
    have := q3
    rw [e2] at this
    exact this) w.heap.size (by omega) (by omega)
  rw [s1] at r1
  have r2 := lit_at w2 W [16] (by decide) (w.heap.size + 1 + 1 + 1 + 1 + 1 + 1 + 1) (by
    have := q4
    rw [e3] at this
    exact this) w.heap.size (by omega) (by omega)
  rw [s2] at r2
  have r3 := lit_at w3 W [8, 128, 0, 0, 0, 0, 0, 0, 0] (by decide) (w.heap.size + 1 + 1 + 1 + 1 + 1 + 1 + 1) (by
    have := q5
    rw [e4] at this
    exact this) w.heap.size (by omega) (by omega)
  rw [s3] at r3
  have r4 := lit_at w4 W [24, 128, 0, 0, 0, 0, 0, 0, 1] (by decide) (w.heap.size + 1 + 1 + 1 + 1 + 1 + 1 + 1) (by
    have := q6
    rw [e5] at this
    exact this) w.heap.size (by omega) (by omega)
  rw [s4] at r4
  have r5 := lit_at w5 W [17, 0] (by decide) (w.heap.size + 1 + 1 + 1 + 1 + 1 + 1 + 1) (by
    have := q7
    rw [e6] at this
    exact this) w.heap.size (by omega) (by omega)
  rw [s5] at r5
  refine ⟨⟨by omega, by omega, fun k hk => ?_⟩, q1⟩
  match k, hk with
  | 0, _ => exact ⟨_, by rw [eW, ← s6]; simp, r0⟩
  | 1, _ => exact ⟨_, by rw [eW, ← s6]; simp, r1⟩
  | 2, _ => exact ⟨_, by rw [eW, ← s6]; simp, r2⟩
  | 3, _ => exact ⟨_, by rw [eW, ← s6]; simp, r3⟩
  | 4, _ => exact ⟨_, by rw [eW, ← s6]; simp, r4⟩
  | 5, _ => exact ⟨_, by rw [eW, ← s6]; simp, r5⟩

theorem low_enc : [] ++ Pk.enc (-9223372036854775808) = [24, 128, 0, 0, 0, 0, 0, 0, 0] := by decide
theorem high_enc : [] ++ Pk.enc 9223372036854775807 = [8, 127, 255, 255, 255, 255, 255, 255, 255] := by decide

set_option maxRecDepth 100000 in
set_option maxHeartbeats 2000000 in
theorem known_any (w : World) : Calls Try.prog 9 #[] w fun e w' => e = .returned (.bool true) ∧ Kp 0 0 w w' := by
  have hmk := fun (n : Nat) (hn : n ≤ 1000) (w : World) => run_make_row' (P := Try.prog) 22 5 (.int .u8 0) 1 Try.underlying22 info_u8k rfl .i64 .i64 n (by omega) (by omega) w
  have HMK := Lib.hid hmk
  clear hmk
  go_enter Try.func9, Try.ntmps9
  go_wp2_with fail
  go_loopw [1] (fun i wr => ∃ k : Nat, k ≤ 64 ∧ i = .int .i64 k ∧ Kp 0 0 w wr) (fun i _ => 64 - (intOf i).toNat)
  case atStart => exact ⟨0, Nat.zero_le _, rfl, Kp.refl _ _ _⟩
  case round =>
    obtain ⟨k, hk, rfl, hkp⟩ := hrel
    have HKP := Lib.hid hkp
    clear hkp
    by_cases hlt : k < 64
    · obtain ⟨wo, rfl⟩ : ∃ wo, wo = wr := ⟨_, rfl⟩
      go_wp2_with fail
      have hdk : decide ((k : Int) < 64) = true := decide_eq_true (by omega)
      rw [hdk]
      clear hdk
      go_loopw [2] (fun i wr => ∃ j : Nat, j ≤ 5 ∧ i = .int .i64 ((j : Int) - 2) ∧ Kp 0 0 wo wr) (fun i _ => (3 - intOf i).toNat)
      case atStart => exact ⟨0, Nat.zero_le _, rfl, Kp.refl _ _ _⟩
      case round =>
        obtain ⟨j, hj, rfl, hkj⟩ := hrel
        have HKJ := Lib.hid hkj
        clear hkj
        by_cases hlj : j < 5
        · have hmk := HMK.out k (by omega)
          go_wp2_with fail
          obtain ⟨n, hn⟩ : ∃ n : Int, n = wrap64 (wrap64 (2 ^ k) + ((j : Int) - 2)) := ⟨_, rfl⟩
          rw [← hn]
          have hnr : -9223372036854775808 ≤ n ∧ n ≤ 9223372036854775807 := by rw [hn]; unfold wrap64; omega
          have HNR := Lib.hid hnr
          clear hn hnr
          refine (form_any n _ [] wr (RdI.nil .u8 0 0 wr) (fun y hy => by cases hy) HNR.out.1 HNR.out.2).mono ?_
          rintro e w1 ⟨rfl, hk1⟩
          have HK1 := Lib.hid (HKJ.out.trans hk1)
          clear hk1
          go_wp2_with fail
          refine (back_known n _ k w1 (by omega) HNR.out (by unfold wrap64; omega)).mono ?_
          rintro e w2 ⟨rfl, hk2⟩
          have HK2 := Lib.hid (HK1.out.trans hk2)
          clear hk2
          go_wp2_with fail
          refine (cut_known _ k w2 (by omega) (by unfold wrap64; omega)).mono ?_
          rintro e w3 ⟨rfl, hk3⟩
          have HK3 := Lib.hid (HK2.out.trans hk3)
          clear hk3
          go_wp2_with fail
          go_roundw
          case rel => exact ⟨j + 1, by omega, by go_num, HK3.out⟩
          case measure => simp [intOf]; omega
        · obtain rfl : j = 5 := by omega
          go_wp2_with fail
          go_roundw
          case rel => exact ⟨k + 1, by omega, by go_num, HKP.out.trans HKJ.out⟩
          case measure => simp [intOf]; omega
    · go_wp2_with fail
      have hdk : decide ((k : Int) < 64) = false := decide_eq_false (by omega)
      try rw [hdk]
      clear hdk hlt hk
      go_loopw [4] (fun i wr => ∃ k : Nat, k ≤ 256 ∧ i = .int .i64 k ∧ Kp 0 0 w wr) (fun i _ => 256 - (intOf i).toNat)
      case atStart => exact ⟨0, Nat.zero_le _, rfl, HKP.out⟩
      case round =>
        obtain ⟨k, hk, rfl, hkp⟩ := hrel
        have HKQ := Lib.hid hkp
        clear hkp HKP
        by_cases hlt : k < 256
        · have HA := heads_all k hlt
          have HRA := Lib.hid (head_range hlt)
          have ho := (OwnI.of_rowN (l := [(k : Int)]) (K := .u8) (by simpa using own_lit (w := wr) (base := wr.heap.size) (n := 1) #[.int .u8 (k : Int)] 5 (Nat.le_refl _) rfl (by decide)) rfl).keep0 ((Kp.refl 0 0 _).alloc (.cells #[.int .u8 1, .int .u8 2, .int .u8 3, .int .u8 4, .int .u8 5, .int .u8 6, .int .u8 7, .int .u8 8] 5))
          have HO := Lib.hid ho
          have hr := lit_rd .u8 5 (wr.alloc (.cells #[.int .u8 (k : Int)] 5)) [1, 2, 3, 4, 5, 6, 7, 8] (by decide)
          have hs : (wr.alloc (.cells #[.int .u8 (k : Int)] 5)).heap.size = wr.heap.size + 1 := by simp
          rw [hs] at hr
          have HR := Lib.hid hr
          clear ho hr hs
          go_wp2_with (at_builtin; (refine wpList_app rfl _ _ 22 rfl wr.heap.size 5 .u8 1 Try.underlying22 info_u8k _ _ _ rfl HO.out.1 _ rfl [1, 2, 3, 4, 5, 6, 7, 8] HR.out ?c3 ?c4 ?c5 ?_))
          case c3 => show 9 ≤ maxLen; decide
          case c4 => show (9 * 1 : Nat) ≤ _; decide
          case c5 => simp; omega
          intro v' w2 hown' hg
          have hkw : Kp 0 0 wr w2 := (((Kp.refl 0 0 wr).alloc _).alloc _).grown hg fun j hj => .inl (by simp [Value.ownBlock] at hj; omega)
          have ho2 : OwnI .u8 5 wr.heap.size w2.heap.size w2 v' (headRow k) := OwnI.of_rowN (l := headRow k) hown' rfl
          obtain ⟨aob, cb, rfl, hcb1, hcb2, _⟩ := ho2.rd.open
          have HO2 := Lib.hid ho2
          have HK2 := Lib.hid (HKQ.out.trans hkw)
          clear hkw ho2 hown' hg HO HR
          go_wp2_with fail
          refine (from_any _ _ _ HO2.out.rd (by simp [headRow])).mono ?_
          rintro e w3 ⟨p, rfl, hp, hr, hk3⟩
          have HR3 := Lib.hid hr
          have HK3 := Lib.hid (HK2.out.trans hk3)
          have HO3 := Lib.hid (HO2.out.keep0 hk3)
          have hpw : w.heap.size ≤ p := by have := HK2.out.size; omega
          have hp2 : w2.heap.size ≤ p := hp
          clear hr hk3 hp
          generalize hx1 : (Pk.rdInt (headRow k) 0).1 = x1 at HA
          generalize hdn : Pk.dne (Pk.rdInt (headRow k) 0).2.1 (Pk.rdInt (headRow k) 0).2.2 = dn at HA
          have HX1 := Lib.hid hx1
          have HDN := Lib.hid hdn
          clear hx1 hdn
          rcases HA with ⟨rfl, rfl⟩ | ⟨ha1, ha2, ha3⟩ | ⟨ha1, ha2, rfl, rfl⟩ | ⟨ha1, ha2, ha3⟩ | ⟨ha1, rfl, rfl⟩
          all_goals
            go_wp2_with fail
            try rw [show decide ((k : Int) ≤ 8) = false from decide_eq_false (by omega)]
            try rw [show decide ((k : Int) ≤ 24) = false from decide_eq_false (by omega)]
            try rw [show decide ((k : Int) ≤ 24) = true from decide_eq_true (by omega)]
            try rw [Bool.false_or]
            refine (rint_any _ 0 _ HR3.out HRA.out).mono ?_
            rw [HX1.out]
            rintro e w4 ⟨rfl, hr, hk4⟩
            have HR4 := Lib.hid hr
            have HK4 : Hid (Kp 0 0 w w4) := HK3.out.step hk4 fun j h _ => .inl (by omega)
            have HO4 := Lib.hid (HO3.out.keep hk4 fun b _ hb => .inl (by omega))
            clear hr hk4
            go_wp2_with fail
            refine (done_any _ _ _ HR4.out).mono ?_
            rw [HDN.out]
            rintro e w5 ⟨rfl, rfl⟩
            go_wp2_with fail
          all_goals first
            | (rename_i h
               exfalso
               exact h (by
                 rw [show decide ((k : Int) ≤ 8) = false from decide_eq_false (by omega)]
                 try rw [show decide ((k : Int) ≤ 24) = false from decide_eq_false (by omega)]
                 rw [show ((k : Int) == 0) = false from beq_eq_false_iff_ne.2 (by omega)]
                 rfl))
            | (refine (tells_any (n := 3) _ _ (headRow _) (fun i => if i = 1 then 2 else 0) (fun _ => 0) _ ((HO4.out.keep0 ((Kp.refl 0 0 w4).alloc _)).rd.wide (Nat.zero_le _) (Nat.le_refl _)) (rdg_known w4) rdg_in HRA.out).mono ?_
               rintro e w6 ⟨rfl, hk6⟩
               have HK6 : Hid (Kp 0 0 w w6) := (HK4.out.alloc _).trans hk6
               clear hk6
               go_wp2_with fail
               go_roundw
               case rel => first | exact ⟨k + 1, by omega, by go_num, HK6.out⟩ | exact ⟨1, by decide, by go_num, HK6.out⟩
               case measure => first | (simp [intOf]; done) | (simp [intOf]; omega))
        · go_wp2_with fail
          have hdk : decide ((k : Int) < 256) = false := decide_eq_false (by omega)
          rw [hdk]
          clear hdk hlt hk
          obtain ⟨hbad, hkb⟩ := bad_lit wr
          have hsb : wr.heap.size ≤ wr.heap.size := Nat.le_refl _
          generalize (((((((wr.alloc (.cells #[.int .u8 1, .int .u8 0] 5)).alloc (.cells #[.int .u8 9] 5)).alloc (.cells #[.int .u8 16] 5)).alloc (.cells #[.int .u8 8, .int .u8 128, .int .u8 0, .int .u8 0, .int .u8 0, .int .u8 0, .int .u8 0, .int .u8 0, .int .u8 0] 5)).alloc (.cells #[.int .u8 24, .int .u8 128, .int .u8 0, .int .u8 0, .int .u8 0, .int .u8 0, .int .u8 0, .int .u8 0, .int .u8 1] 5)).alloc (.cells #[.int .u8 17, .int .u8 0] 5)).alloc (.cells #[.slice (some ⟨wr.heap.size, 0, none⟩) 2 2, .slice (some ⟨wr.heap.size + 1, 0, none⟩) 1 1, .slice (some ⟨wr.heap.size + 1 + 1, 0, none⟩) 1 1, .slice (some ⟨wr.heap.size + 1 + 1 + 1, 0, none⟩) 9 9, .slice (some ⟨wr.heap.size + 1 + 1 + 1 + 1, 0, none⟩) 9 9, .slice (some ⟨wr.heap.size + 1 + 1 + 1 + 1 + 1, 0, none⟩) 2 2] 22)) = wB at hbad hkb ⊢
          generalize wr.heap.size + 1 + 1 + 1 + 1 + 1 + 1 = b0 at hbad ⊢
          have HB := Lib.hid hbad
          have HKB := Lib.hid (HKQ.out.trans hkb)
          clear hbad hkb hsb
          go_loopw [10] (fun i wr => ∃ m : Nat, m ≤ 6 ∧ i = .int .i64 m ∧ Kp 0 0 wB wr) (fun i _ => 6 - (intOf i).toNat)
          case atStart => exact ⟨0, Nat.zero_le _, rfl, Kp.refl _ _ _⟩
          case round =>
            obtain ⟨m, hm, rfl, hkp⟩ := hrel
            have HKM := Lib.hid hkp
            by_cases hlm : m < 6
            · obtain ⟨v, hcv, hrd⟩ := (HB.out.keep0 hkp).2.2 m hlm
              obtain ⟨ao, c, rfl, _, _, _⟩ := hrd.open
              have HRD := Lib.hid hrd
              have HRG := Lib.hid (bad_range m hlm)
              obtain ⟨hx, hd, hy⟩ := bad_all m hlm
              have HX := Lib.hid hx
              have HD := Lib.hid hd
              have HY := Lib.hid hy
              have HLEN : Hid ((badL m).length ≤ 1000) := by
                show _ ≤ _
                have : ∀ k, k < 6 → (badL k).length ≤ 1000 := by decide
                exact this m hlm
              clear hkp hrd hx hd hy
              go_wp2_with fail
              refine (from_any _ _ _ HRD.out (by have := HLEN.out; omega)).mono ?_
              rintro e w3 ⟨p, rfl, hp, hr, hk3⟩
              have HR3 := Lib.hid hr
              have HK3 : Hid (Kp 0 0 wB w3) := HKM.out.trans hk3
              have hpw : wB.heap.size ≤ p := by have := HKM.out.size; omega
              clear hr hk3 hp
              go_wp2_with fail
              refine (rint_any _ 0 _ HR3.out HRG.out).mono ?_
              rw [HX.out]
              rintro e w4 ⟨rfl, hr, hk4⟩
              have HR4 := Lib.hid hr
              have HK4 : Hid (Kp 0 0 wB w4) := HK3.out.step hk4 fun j h _ => .inl (by omega)
              clear hr hk4
              go_wp2_with fail
              refine (done_any _ _ _ HR4.out).mono ?_
              rw [HD.out]
              rintro e w5 ⟨rfl, rfl⟩
              go_wp2_with fail
              refine (rint_any _ _ _ HR4.out (rdInt_range HRG.out)).mono ?_
              rw [HY.out]
              rintro e w6 ⟨rfl, _, hk6⟩
              have HK6 : Hid (Kp 0 0 wB w6) := HK4.out.step hk6 fun j h _ => .inl (by omega)
              clear hk6
              go_wp2_with fail
              go_roundw
              case rel => exact ⟨m + 1, by omega, by go_num, HK6.out⟩
              case measure => simp [intOf]; omega
            · clear hkp
              go_wp2_with fail
              refine (int_any (lo := 0) (hi := 0) (.slice none 0 0) [] (-9223372036854775808) _ (RdI.nil _ _ _ _) (by decide) (by decide) (by decide)).mono ?_
              rw [low_enc]
              rintro e w3 ⟨v3, rfl, ho3, hk3⟩
              obtain ⟨ao3, c3, rfl, _, _, _⟩ := ho3.rd.open
              have HO3 := Lib.hid ho3
              have HK3 : Hid (Kp 0 0 w w3) := (HKB.out.trans HKM.out).trans hk3
              clear ho3 hk3
              go_wp2_with fail
              refine (int_any (lo := 0) (hi := 0) (.slice none 0 0) [] 9223372036854775807 _ (RdI.nil _ _ _ _) (by decide) (by decide) (by decide)).mono ?_
              rw [high_enc]
              rintro e w4 ⟨v4, rfl, ho4, hk4⟩
              obtain ⟨ao4, c4, rfl, _, _, _⟩ := ho4.rd.open
              have HO4 := Lib.hid ho4
              have HO34 := Lib.hid (HO3.out.keep0 hk4)
              have HK4 : Hid (Kp 0 0 w w4) := HK3.out.trans hk4
              clear ho4 hk4
              go_wp2_with fail
              have HX1 := Lib.hid (HO34.out.rd.keep0 ((Kp.refl 0 0 w4).alloc (.cells #[.int .u8 24, .int .u8 128, .int .u8 0, .int .u8 0, .int .u8 0, .int .u8 0, .int .u8 0, .int .u8 0, .int .u8 0] 5)))
              refine (same_yes _ _ _ [24, 128, 0, 0, 0, 0, 0, 0, 0] HX1.out (lit_rd .u8 5 w4 [24, 128, 0, 0, 0, 0, 0, 0, 0] (by decide))).mono ?_
              rintro e w5 ⟨rfl, hk5⟩
              have HK45 : Hid (Kp 0 0 w4 w5) := ((Kp.refl 0 0 w4).alloc _).trans hk5
              clear hk5
              go_wp2_with fail
              have HX2 := Lib.hid ((HO4.out.rd.keep0 HK45.out).keep0 ((Kp.refl 0 0 w5).alloc (.cells #[.int .u8 8, .int .u8 127, .int .u8 255, .int .u8 255, .int .u8 255, .int .u8 255, .int .u8 255, .int .u8 255, .int .u8 255] 5)))
              refine (same_yes _ _ _ [8, 127, 255, 255, 255, 255, 255, 255, 255] HX2.out (lit_rd .u8 5 w5 [8, 127, 255, 255, 255, 255, 255, 255, 255] (by decide))).mono ?_
              rintro e w6 ⟨rfl, hk6⟩
              have HK56 : Hid (Kp 0 0 w5 w6) := ((Kp.refl 0 0 w5).alloc _).trans hk6
              clear hk6
              go_wp2_with fail
              refine (shown_any _).mono ?_
              rintro e w7 ⟨rfl, hk7⟩
              have HK7 : Hid (Kp 0 0 w w7) := ((HK4.out.trans HK45.out).trans HK56.out).trans hk7
              clear hk7
              go_wp2_with fail
              go_ret
              exact ⟨rfl, HK7.out⟩

end Go.Proofs.Ytomefjfhccicaaa
