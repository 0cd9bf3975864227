/-
  DeclMany as a contract.
-/
import Derived.Test.YtgokhagbknlfaaaDlKn
import Derived.Test.YtgokhagbknlfaaaPickI
import Derived.Laws.MakeOwn
namespace Go.Proofs.Ytgokhagbknlfaaa
open Go.RowKit
set_option maxRecDepth 100000

theorem info_flD : (Try.prog.info? 45).map (fun i => (i.zero, i.size, i.bytes)) = some (some (.agg #[.int .i64 0, .int .i64 0, .bool false, .slice none 0 0]), 4, 48) := by kernel_rfl
theorem info_tyD : (Try.prog.info? 42).map (fun i => (i.zero, i.size, i.bytes)) = some (some (.agg #[.slice none 0 0]), 1, 24) := by kernel_rfl
theorem info_pjD : (Try.prog.info? 51).map (fun i => (i.zero, i.size, i.bytes)) = some (some (.agg #[.int .i64 0, .int .i64 0, .int .i64 0, .int .i64 0, .int .i64 0]), 5, 40) := by kernel_rfl

/-- A row that was just made reads as so many zero things. -/
theorem made_rd {α : Type} {E : Rp α} {k : Nat} (h0 : 0 < k) {w : World} {S : Nat → Prop} {g n m : Nat} {e : TypeId} {zs : List Value} (hz : zs.length = k) (hm : m = n * k) (hg : w.heap[g]? = some (.cells (madeCells zs.toArray m) e (0, 0))) {z : α} (hE : E w S zs z) (hS : S g) (hn : n ≤ 9223372036854775807) :
    RdS E k w S (.slice (some ⟨g, 0, none⟩) n n) (List.replicate n z) := by
  refine ⟨_, n, by simp, by simp, hn, (fun h => by cases h), fun _ => ⟨g, 0, rfl, hS, fun i x hi => ?_⟩⟩
  have hil : i < n := by
    have := (List.getElem?_eq_some_iff.1 hi).1
    simpa using this
  obtain rfl : x = z := by
    rw [List.getElem?_replicate, if_pos hil] at hi
    exact (Option.some.inj hi).symm
  refine ⟨zs, hz, fun j u hu => ?_, hE⟩
  have hj : j < k := by
    have := (List.getElem?_eq_some_iff.1 hu).1
    omega
  refine blk_cell hg ?_
  have hlt : i * k + j < m := by
    have := Nat.mul_le_mul_right k (show i + 1 ≤ n from hil)
    rw [Nat.add_mul, Nat.one_mul] at this
    omega
  have e1 : (i * k + j) % k = j := by
    rw [Nat.mul_comm, Nat.mul_add_mod, Nat.mod_eq_of_lt hj]
  subst hz
  have h2 := (List.getElem?_eq_some_iff.1 hu).2
  simp [madeCells, hlt, e1, hj]
  exact h2

namespace Dl
def d1 (n : Nat) : Dc := ⟨List.replicate n [], []⟩
def d2 (n : Nat) : Dc := ⟨[List.replicate n Sc.z], []⟩
def d3 (n : Nat) : Dc := ⟨[[⟨0, 0, false, List.replicate n Sc.zm⟩]], []⟩
def d4 (n : Nat) : Dc := ⟨[], List.replicate n Sc.zp⟩
theorem put_err (d : Dc) : (put d).2 = if many d = true then 3 else 0 := by
  unfold put
  split <;> rfl
theorem any_rep {α : Type} {p : α → Bool} {x : α} (h : p x = false) : ∀ n, (List.replicate n x).any p = false
  | 0 => rfl
  | n + 1 => by
    rw [List.replicate_succ, List.any_cons, h, any_rep h n]
    rfl
theorem m1 (n : Nat) : many (d1 n) = decide (8 < n) := by
  have h := any_rep (p := manyT) (x := []) rfl n
  simp only [many, d1, List.length_replicate, List.length_nil, h]
  simp
theorem m2 (n : Nat) : many (d2 n) = decide (8 < n) := by
  have h := any_rep (p := manyF) (x := Sc.z) rfl n
  simp only [many, d2, manyT, List.any_cons, List.any_nil, List.length_replicate, List.length_cons, List.length_nil, h]
  simp
theorem m3 (n : Nat) : many (d3 n) = decide (16 < n) := by
  simp only [many, d3, manyT, manyF, List.any_cons, List.any_nil, List.length_replicate, List.length_cons, List.length_nil]
  simp
theorem m4 (n : Nat) : many (d4 n) = decide (8 < n) := by
  simp only [many, d4, List.any_nil, List.length_replicate, List.length_nil]
  simp
theorem z64 : Sc.I64 0 := ⟨by decide, by decide⟩
theorem fits1 (n : Nat) : Sc.Fits (d1 n) := ⟨fun t ht f hf => (by rw [List.eq_of_mem_replicate ht] at hf; cases hf), fun p hp => by cases hp⟩
theorem fits2 (n : Nat) : Sc.Fits (d2 n) := ⟨fun t ht f hf => by
  simp [d2] at ht
  subst ht
  rw [List.eq_of_mem_replicate hf]
  exact ⟨z64, z64, fun m hm => by cases hm⟩, fun p hp => by cases hp⟩
theorem fits3 (n : Nat) : Sc.Fits (d3 n) := ⟨fun t ht f hf => by
  simp [d3] at ht
  subst ht
  simp at hf
  subst hf
  refine ⟨z64, z64, fun m hm => ?_⟩
  rw [List.eq_of_mem_replicate hm]
  exact ⟨z64, z64, z64, z64⟩, fun p hp => by cases hp⟩
theorem fits4 (n : Nat) : Sc.Fits (d4 n) := ⟨fun t ht _ _ => (by cases ht), fun p hp => by
  rw [List.eq_of_mem_replicate hp]
  exact ⟨z64, z64, z64, z64, z64⟩⟩
end Dl

set_option maxRecDepth 100000 in
set_option maxHeartbeats 4000000 in
theorem dmany_any {P : World → Prop} (HP : DKeeps P) (HPU : DPutOk P) (HGE : DGetOk P) (k : Int) (w : World) (h1 : -9223372036854775808 ≤ k) (h2 : k ≤ 9223372036854775807) (hp : P w) :
    Calls Try.prog 5 #[.int .i64 k] w fun r w' => r = .returned (.bool true) ∧ Kp 0 0 w w' := by
  have HPW : Hid (∀ W, Kp 0 0 w W → P W) := fun W hW => HP w W hp hW
  clear hp
  have HPK := Lib.hid (pick_any k 41 w h1 h2 (by decide))
  obtain ⟨n, hn⟩ : ∃ n : Nat, pick k 41 = (n : Int) := ⟨(pick k 41).toNat, by have := (pick_range (k := k) (n := 41) (by decide)).1; omega⟩
  have hn40 : n ≤ 40 := by have := (pick_range (k := k) (n := 41) (by decide)).2; omega
  have hK : ∀ (t e : TypeId) (z : List Value) (m b : Nat), Try.prog.underlying t = some (.slice e) → (Try.prog.info? e).map (fun i => (i.zero, i.size, i.bytes)) = some (some (.agg z.toArray), m, b) → b ≤ 1000 → (Value.agg z.toArray).cells = z.toArray →
      ∀ W, (Instr.makeSlice t (.int .i64 (n : Int)) (.int .i64 (n : Int))).run Try.prog W = .ok (.slice (some ⟨W.heap.size, 0, none⟩) n n) (W.alloc (.cells (madeCells z.toArray (n * m)) e)) := by
    intro t e z m b ht hinfo hb hzc W
    obtain ⟨im, hi, hz0, hz1, hz2⟩ := info_parts hinfo
    have h := run_make (P := Try.prog) W t e im _ ht hi hz0 .i64 .i64 (n : Int) (n : Int) (by omega) (by omega) (by rw [hz2]; have : (b : Int) * n ≤ 1000 * 40 := Int.mul_le_mul (by omega) (by omega) (by omega) (by omega); omega) (by omega)
    rw [hz1, hzc] at h
    simp only [Int.toNat_natCast] at h
    exact h
  have hmT : ∀ W, (Instr.makeSlice 22 (.int .i64 (n : Int)) (.int .i64 (n : Int))).run Try.prog W = .ok (.slice (some ⟨W.heap.size, 0, none⟩) n n) (W.alloc (.cells (madeCells #[.slice none 0 0] n) 42)) := fun W => by
    have h := hK 22 42 [.slice none 0 0] 1 24 Try.underlying22 info_tyD (by decide) rfl W
    rw [Nat.mul_one] at h
    exact h
  have hmF : ∀ W, (Instr.makeSlice 40 (.int .i64 (n : Int)) (.int .i64 (n : Int))).run Try.prog W = .ok (.slice (some ⟨W.heap.size, 0, none⟩) n n) (W.alloc (.cells (madeCells #[.int .i64 0, .int .i64 0, .bool false, .slice none 0 0] (n * 4)) 45)) := hK 40 45 [.int .i64 0, .int .i64 0, .bool false, .slice none 0 0] 4 48 Try.underlying40 info_flD (by decide) rfl
  have hmM : ∀ W, (Instr.makeSlice 43 (.int .i64 (n : Int)) (.int .i64 (n : Int))).run Try.prog W = .ok (.slice (some ⟨W.heap.size, 0, none⟩) n n) (W.alloc (.cells (madeCells #[.int .i64 0, .int .i64 0, .int .i64 0, .int .i64 0] (n * 4)) 73)) := hK 43 73 [.int .i64 0, .int .i64 0, .int .i64 0, .int .i64 0] 4 32 Try.underlying43 info_mv (by decide) rfl
  have hmP : ∀ W, (Instr.makeSlice 23 (.int .i64 (n : Int)) (.int .i64 (n : Int))).run Try.prog W = .ok (.slice (some ⟨W.heap.size, 0, none⟩) n n) (W.alloc (.cells (madeCells #[.int .i64 0, .int .i64 0, .int .i64 0, .int .i64 0, .int .i64 0] (n * 5)) 51)) := hK 23 51 [.int .i64 0, .int .i64 0, .int .i64 0, .int .i64 0, .int .i64 0] 5 40 Try.underlying23 info_pjD (by decide) rfl
  clear hK h1 h2
  rw [hn] at HPK
  have HP1 : Hid (∀ W, Kp 0 0 w W → Calls Try.prog 10 #[.agg #[.slice (some ⟨W.heap.size, 0, none⟩) n n, .slice none 0 0]] (W.alloc (.cells (madeCells #[.slice none 0 0] n) 42)) fun r w' => ∃ v, r = .returned (.tuple #[v, .int .i64 (if 8 < n then 3 else 0)]) ∧ Kp 0 0 w w') := fun W hW => by
    have hr : RdD (W.alloc (.cells (madeCells #[.slice none 0 0] n) 42)) (fun _ => True) (.slice (some ⟨W.heap.size, 0, none⟩) n n) (.slice none 0 0) (Dl.d1 n) := ⟨made_rd (k := 1) (by decide) (zs := [.slice none 0 0]) rfl (by omega) (blk_one W _) ⟨_, rfl, RdS.nil _ _ _ _⟩ trivial (by omega), RdS.nil _ _ _ _⟩
    have h := HPU _ (Dl.d1 n) _ _ _ hr (Dl.fits1 n) (by simp [Dl.d1]; omega) (by simp [Dl.d1]) (fun t ht => by rw [List.eq_of_mem_replicate ht]; exact ⟨by simp, fun f hf => by cases hf⟩) (HPW.out _ (hW.alloc _))
    rw [Dl.put_err, Dl.m1] at h
    simp only [decide_eq_true_eq] at h
    exact h.mono fun r w' ⟨v, hr, _, hk⟩ => ⟨v, hr, (hW.alloc _).trans hk⟩
  have HP2 : Hid (∀ W, Kp 0 0 w W → Calls Try.prog 10 #[.agg #[.slice (some ⟨W.heap.size + 1, 0, none⟩) 1 1, .slice none 0 0]] ((W.alloc (.cells (madeCells #[.int .i64 0, .int .i64 0, .bool false, .slice none 0 0] (n * 4)) 45)).alloc (.cells #[.slice (some ⟨W.heap.size, 0, none⟩) n n] 42)) fun r w' => ∃ v, r = .returned (.tuple #[v, .int .i64 (if 8 < n then 3 else 0)]) ∧ Kp 0 0 w w') := fun W hW => by
    have hb := blk_old (blk_one W (.cells (madeCells #[.int .i64 0, .int .i64 0, .bool false, .slice none 0 0] (n * 4)) 45)) (.cells #[.slice (some ⟨W.heap.size, 0, none⟩) n n] 42)
    have ht := blk_two W (.cells (madeCells #[.int .i64 0, .int .i64 0, .bool false, .slice none 0 0] (n * 4)) 45) (.cells #[.slice (some ⟨W.heap.size, 0, none⟩) n n] 42)
    have hr : RdD ((W.alloc (.cells (madeCells #[.int .i64 0, .int .i64 0, .bool false, .slice none 0 0] (n * 4)) 45)).alloc (.cells #[.slice (some ⟨W.heap.size, 0, none⟩) n n] 42)) (fun _ => True) (.slice (some ⟨W.heap.size + 1, 0, none⟩) 1 1) (.slice none 0 0) (Dl.d2 n) := by
      refine ⟨⟨_, 1, rfl, Nat.le_refl _, by decide, (fun h => by cases h), fun _ => ⟨W.heap.size + 1, 0, rfl, trivial, fun i x hi => ?_⟩⟩, RdS.nil _ _ _ _⟩
      match i, hi with
      | 0, hi =>
        simp [Dl.d2] at hi
        subst hi
        refine ⟨[.slice (some ⟨W.heap.size, 0, none⟩) n n], rfl, fun j u hu => ?_, _, rfl, made_rd (k := 4) (by decide) (zs := [.int .i64 0, .int .i64 0, .bool false, .slice none 0 0]) rfl rfl hb ⟨_, rfl, RdS.nil _ _ _ _⟩ trivial (by omega)⟩
        match j, hu with
        | 0, hu => cases hu; exact blk_cell ht rfl
    have h := HPU _ (Dl.d2 n) _ _ _ hr (Dl.fits2 n) (by simp [Dl.d2]) (by simp [Dl.d2]) (fun t ht => by simp [Dl.d2] at ht; subst ht; exact ⟨by simp; omega, fun f hf => by rw [List.eq_of_mem_replicate hf]; decide⟩) (HPW.out _ ((hW.alloc _).alloc _))
    rw [Dl.put_err, Dl.m2] at h
    simp only [decide_eq_true_eq] at h
    exact h.mono fun r w' ⟨v, hr, _, hk⟩ => ⟨v, hr, ((hW.alloc _).alloc _).trans hk⟩
  have HP4 : Hid (∀ W, Kp 0 0 w W → Calls Try.prog 10 #[.agg #[.slice none 0 0, .slice (some ⟨W.heap.size, 0, none⟩) n n]] (W.alloc (.cells (madeCells #[.int .i64 0, .int .i64 0, .int .i64 0, .int .i64 0, .int .i64 0] (n * 5)) 51)) fun r w' => ∃ v, r = .returned (.tuple #[v, .int .i64 (if 8 < n then 3 else 0)]) ∧ Kp 0 0 w w') := fun W hW => by
    have hr : RdD (W.alloc (.cells (madeCells #[.int .i64 0, .int .i64 0, .int .i64 0, .int .i64 0, .int .i64 0] (n * 5)) 51)) (fun _ => True) (.slice none 0 0) (.slice (some ⟨W.heap.size, 0, none⟩) n n) (Dl.d4 n) := ⟨RdS.nil _ _ _ _, made_rd (k := 5) (by decide) (zs := [.int .i64 0, .int .i64 0, .int .i64 0, .int .i64 0, .int .i64 0]) rfl rfl (blk_one W _) rfl trivial (by omega)⟩
    have h := HPU _ (Dl.d4 n) _ _ _ hr (Dl.fits4 n) (by simp [Dl.d4]) (by simp [Dl.d4]; omega) (fun t ht => by cases ht) (HPW.out _ (hW.alloc _))
    rw [Dl.put_err, Dl.m4] at h
    simp only [decide_eq_true_eq] at h
    exact h.mono fun r w' ⟨v, hr, _, hk⟩ => ⟨v, hr, (hW.alloc _).trans hk⟩
  have HP3 : Hid (∀ W, Kp 0 0 w W → Calls Try.prog 10 #[.agg #[.slice (some ⟨W.heap.size + 1 + 1, 0, none⟩) 1 1, .slice none 0 0]] (((W.alloc (.cells (madeCells #[.int .i64 0, .int .i64 0, .int .i64 0, .int .i64 0] (n * 4)) 73)).alloc (.cells #[.int .i64 0, .int .i64 0, .bool false, .slice (some ⟨W.heap.size, 0, none⟩) n n] 45)).alloc (.cells #[.slice (some ⟨W.heap.size + 1, 0, none⟩) 1 1] 42)) fun r w' => ∃ v, r = .returned (.tuple #[v, .int .i64 (if 16 < n then 3 else 0)]) ∧ Kp 0 0 w w') := fun W hW => by
    have hb := blk_old (blk_old (blk_one W (.cells (madeCells #[.int .i64 0, .int .i64 0, .int .i64 0, .int .i64 0] (n * 4)) 73)) (.cells #[.int .i64 0, .int .i64 0, .bool false, .slice (some ⟨W.heap.size, 0, none⟩) n n] 45)) (.cells #[.slice (some ⟨W.heap.size + 1, 0, none⟩) 1 1] 42)
    have hf := blk_old (blk_two W (.cells (madeCells #[.int .i64 0, .int .i64 0, .int .i64 0, .int .i64 0] (n * 4)) 73) (.cells #[.int .i64 0, .int .i64 0, .bool false, .slice (some ⟨W.heap.size, 0, none⟩) n n] 45)) (.cells #[.slice (some ⟨W.heap.size + 1, 0, none⟩) 1 1] 42)
    have ht := blk_three W (.cells (madeCells #[.int .i64 0, .int .i64 0, .int .i64 0, .int .i64 0] (n * 4)) 73) (.cells #[.int .i64 0, .int .i64 0, .bool false, .slice (some ⟨W.heap.size, 0, none⟩) n n] 45) (.cells #[.slice (some ⟨W.heap.size + 1, 0, none⟩) 1 1] 42)
    have hr : RdD (((W.alloc (.cells (madeCells #[.int .i64 0, .int .i64 0, .int .i64 0, .int .i64 0] (n * 4)) 73)).alloc (.cells #[.int .i64 0, .int .i64 0, .bool false, .slice (some ⟨W.heap.size, 0, none⟩) n n] 45)).alloc (.cells #[.slice (some ⟨W.heap.size + 1, 0, none⟩) 1 1] 42)) (fun _ => True) (.slice (some ⟨W.heap.size + 1 + 1, 0, none⟩) 1 1) (.slice none 0 0) (Dl.d3 n) := by
      refine ⟨⟨_, 1, rfl, Nat.le_refl _, by decide, (fun h => by cases h), fun _ => ⟨W.heap.size + 1 + 1, 0, rfl, trivial, fun i x hi => ?_⟩⟩, RdS.nil _ _ _ _⟩
      match i, hi with
      | 0, hi =>
        simp [Dl.d3] at hi
        subst hi
        refine ⟨[.slice (some ⟨W.heap.size + 1, 0, none⟩) 1 1], rfl, fun j u hu => ?_, _, rfl, ⟨_, 1, rfl, Nat.le_refl _, by decide, (fun h => by cases h), fun _ => ⟨W.heap.size + 1, 0, rfl, trivial, fun i x hi => ?_⟩⟩⟩
        · match j, hu with
          | 0, hu => cases hu; exact blk_cell ht rfl
        · match i, hi with
          | 0, hi =>
            simp at hi
            subst hi
            refine ⟨[.int .i64 0, .int .i64 0, .bool false, .slice (some ⟨W.heap.size, 0, none⟩) n n], rfl, fun j u hu => ?_, _, rfl, made_rd (k := 4) (by decide) (zs := [.int .i64 0, .int .i64 0, .int .i64 0, .int .i64 0]) rfl rfl hb rfl trivial (by omega)⟩
            match j, hu with
            | 0, hu => cases hu; exact blk_cell hf rfl
            | 1, hu => cases hu; exact blk_cell hf rfl
            | 2, hu => cases hu; exact blk_cell hf rfl
            | 3, hu => cases hu; exact blk_cell hf rfl
    have h := HPU _ (Dl.d3 n) _ _ _ hr (Dl.fits3 n) (by simp [Dl.d3]) (by simp [Dl.d3]) (fun t ht => by simp [Dl.d3] at ht; subst ht; exact ⟨by simp, fun f hf => by simp at hf; subst hf; simp; omega⟩) (HPW.out _ (((hW.alloc _).alloc _).alloc _))
    rw [Dl.put_err, Dl.m3] at h
    simp only [decide_eq_true_eq] at h
    exact h.mono fun r w' ⟨v, hr, _, hk⟩ => ⟨v, hr, (((hW.alloc _).alloc _).alloc _).trans hk⟩
  have HKN : Hid (∀ W, Kp 0 0 w W → Calls Try.prog 8 #[] W fun r w' => r = .returned (.bool true) ∧ Kp 0 0 w w') := fun W hW => (knownD_any HP HPU HGE W (HPW.out _ hW)).mono fun r w' h => ⟨h.1, hW.trans h.2⟩
  by_cases n8 : 8 < n
  · rw [if_pos n8] at HP1 HP2 HP4
    have n8i : ¬ (n : Int) ≤ 8 := by omega
    by_cases n16 : 16 < n
    · rw [if_pos n16] at HP3
      have n16i : ¬ (n : Int) ≤ 16 := by omega
      clear n8 n16 hn
      go_enter Try.func5, Try.ntmps5
      go_wp2_with fail
      refine HPK.out.mono ?_
      rintro r w1 ⟨rfl, rfl⟩
      go_wp2_with fail
      refine (HP1.out _ (Kp.refl _ _ _)).mono ?_
      rintro r w2 ⟨x1, rfl, hk2⟩
      go_wp2_with fail
      refine (HP2.out _ hk2).mono ?_
      rintro r w3 ⟨x2, rfl, hk3⟩
      go_wp2_with fail
      refine (HP3.out _ hk3).mono ?_
      rintro r w4 ⟨x3, rfl, hk4⟩
      go_wp2_with fail
      refine (HP4.out _ hk4).mono ?_
      rintro r w5 ⟨x4, rfl, hk5⟩
      go_wp2_with fail
      refine (HKN.out _ hk5).mono ?_
      rintro r w6 ⟨rfl, hk6⟩
      go_wp2_with fail
      go_returns
      exact ⟨by first | rfl | simp [n8i, n16i], hk6⟩
    · rw [if_neg n16] at HP3
      have n16i : (n : Int) ≤ 16 := by omega
      clear n8 n16 hn
      go_enter Try.func5, Try.ntmps5
      go_wp2_with fail
      refine HPK.out.mono ?_
      rintro r w1 ⟨rfl, rfl⟩
      go_wp2_with fail
      refine (HP1.out _ (Kp.refl _ _ _)).mono ?_
      rintro r w2 ⟨x1, rfl, hk2⟩
      go_wp2_with fail
      refine (HP2.out _ hk2).mono ?_
      rintro r w3 ⟨x2, rfl, hk3⟩
      go_wp2_with fail
      refine (HP3.out _ hk3).mono ?_
      rintro r w4 ⟨x3, rfl, hk4⟩
      go_wp2_with fail
      refine (HP4.out _ hk4).mono ?_
      rintro r w5 ⟨x4, rfl, hk5⟩
      go_wp2_with fail
      refine (HKN.out _ hk5).mono ?_
      rintro r w6 ⟨rfl, hk6⟩
      go_wp2_with fail
      go_returns
      exact ⟨by first | rfl | simp [n8i, n16i], hk6⟩
  · rw [if_neg n8] at HP1 HP2 HP4
    have n8i : (n : Int) ≤ 8 := by omega
    have n16 : ¬ 16 < n := by omega
    rw [if_neg n16] at HP3
    have n16i : (n : Int) ≤ 16 := by omega
    clear n8 n16 hn
    go_enter Try.func5, Try.ntmps5
    go_wp2_with fail
    refine HPK.out.mono ?_
    rintro r w1 ⟨rfl, rfl⟩
    go_wp2_with fail
    refine (HP1.out _ (Kp.refl _ _ _)).mono ?_
    rintro r w2 ⟨x1, rfl, hk2⟩
    go_wp2_with fail
    refine (HP2.out _ hk2).mono ?_
    rintro r w3 ⟨x2, rfl, hk3⟩
    go_wp2_with fail
    refine (HP3.out _ hk3).mono ?_
    rintro r w4 ⟨x3, rfl, hk4⟩
    go_wp2_with fail
    refine (HP4.out _ hk4).mono ?_
    rintro r w5 ⟨x4, rfl, hk5⟩
    go_wp2_with fail
    refine (HKN.out _ hk5).mono ?_
    rintro r w6 ⟨rfl, hk6⟩
    go_wp2_with fail
    go_returns
    exact ⟨by first | rfl | simp [n8i, n16i], hk6⟩

end Go.Proofs.Ytgokhagbknlfaaa
