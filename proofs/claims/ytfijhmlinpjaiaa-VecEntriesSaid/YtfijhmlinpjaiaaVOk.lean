/-
  The landed Get, Cmp, Join and Sum keep the document.
-/
import Derived.Test.YtfijhmlinpjaiaaVSpec
import Derived.Test.YtfijhmlinpjaiaaVRef2
import Derived.Lib.MinMax
import Derived.Deep.OwnRows
namespace Go.Proofs.Ytfijhmlinpjaiaa
open Go.RowKit

set_option maxHeartbeats 1000000 in
theorem getOk : GetOk := by
  intro l1 h1 l o w v hl _ _ _
  obtain ⟨ao, c, rfl, hb1, hb2, hcl⟩ := hl.open
  have HCL := Lib.hid hcl
  clear hl hcl
  by_cases h0 : o < 0
  · have HP := Lib.hid (V.get_neg (l := l) h0)
    go_enter Try.func18, Try.ntmps18
    go_wp2_with fail
    go_returns
    rw [HP.out]
    exact ⟨rfl, by first | exact Qt.refl _ | exact ⟨_, rfl⟩⟩
  obtain ⟨i, rfl⟩ := Int.eq_ofNat_of_zero_le (Int.not_lt.1 h0)
  have HP := Lib.hid (V.get_nat l i)
  have i0 : (0 : Int) ≤ (i : Int) := Int.natCast_nonneg _
  by_cases hlt : i < l.length
  · obtain ⟨b1, o1, rfl, _, _, hc1⟩ := HCL.out (by omega)
    have c1 := hc1 i hlt
    have HE : Hid (V.ent l i = max (l.getD i 0) 0) := rfl
    have i1 : (i : Int) < (l.length : Int) := by omega
    clear hc1
    generalize l.getD i 0 = x at c1 HE
    have HV : Hid (V.get l (i : Int) = max x 0) := by
      show _ = _
      rw [HP.out, HE.out]
    go_enter Try.func18, Try.ntmps18
    go_wp2_with fail
    try (go_quiet (fail); go_wp2_with fail)
    go_returns
    rw [HV.out]
    exact ⟨rfl, by first | exact Qt.refl _ | exact ⟨_, rfl⟩⟩
  · have HV : Hid (V.get l (i : Int) = 0) := by
      show _ = _
      rw [HP.out]
      exact V.ent_out (by omega)
    have i1 : ¬ (i : Int) < (l.length : Int) := by omega
    have i2 : (l.length : Int) ≤ (i : Int) := by omega
    go_enter Try.func18, Try.ntmps18
    go_wp2_with fail
    try (go_quiet (fail); go_wp2_with fail)
    go_returns
    rw [HV.out]
    exact ⟨rfl, by first | exact Qt.refl _ | exact ⟨_, rfl⟩⟩

theorem get_at {l1 h1 : Nat} {l : List Int} {w : World} {v : Value} (hl : RdI .i64 l1 h1 w v l) (hi : V.I64 l) (hn : l.length ≤ 1000000) (i : Nat) (hn2 : i ≤ 1000000) :
    Calls Try.prog 18 #[v, .int .i64 (i : Int)] w fun e w' => e = .returned (.int .i64 (V.ent l i)) ∧ Qt w w' := by
  have := getOk l1 h1 l (i : Int) w v hl hi ⟨by omega, by omega⟩ hn
  rwa [V.get_nat] at this

/-- How two vectors stand, as far as they were looked through: a bit for each way. -/
def hw (a b : List Int) : Nat → Nat
  | 0 => 0
  | k + 1 => (hw a b k ||| (if V.ent a k < V.ent b k then 1 else 0)) ||| (if V.ent b k < V.ent a k then 2 else 0)

theorem hw_zero (a b : List Int) : hw a b 0 = 0 := rfl
theorem hw_succ (a b : List Int) (k : Nat) : hw a b (k + 1) = (hw a b k ||| (if V.ent a k < V.ent b k then 1 else 0)) ||| (if V.ent b k < V.ent a k then 2 else 0) := rfl

theorem hw_lt (a b : List Int) : ∀ k, hw a b k < 4
  | 0 => by rw [hw_zero]; decide
  | k + 1 => by
    have ih := hw_lt a b k
    rw [hw_succ]
    generalize hw a b k = h at ih
    match h, ih with
    | 0, _ => split <;> split <;> decide
    | 1, _ => split <;> split <;> decide
    | 2, _ => split <;> split <;> decide
    | 3, _ => split <;> split <;> decide

theorem hw_bits (a b : List Int) : ∀ k, ((hw a b k % 2 = 0 ↔ ∀ j, j < k → V.ent b j ≤ V.ent a j) ∧ (hw a b k < 2 ↔ ∀ j, j < k → V.ent a j ≤ V.ent b j))
  | 0 => ⟨⟨fun _ j hj => by omega, fun _ => rfl⟩, ⟨fun _ j hj => by omega, fun _ => by rw [hw_zero]; decide⟩⟩
  | k + 1 => by
    obtain ⟨h1, h2⟩ := hw_bits a b k
    have ih := hw_lt a b k
    have s1 : (∀ j, j < k + 1 → V.ent b j ≤ V.ent a j) ↔ (∀ j, j < k → V.ent b j ≤ V.ent a j) ∧ V.ent b k ≤ V.ent a k := ⟨fun h => ⟨fun j hj => h j (by omega), h k (by omega)⟩, fun h j hj => by
      by_cases hjk : j = k
      · rw [hjk]; exact h.2
      · exact h.1 j (by omega)⟩
    have s2 : (∀ j, j < k + 1 → V.ent a j ≤ V.ent b j) ↔ (∀ j, j < k → V.ent a j ≤ V.ent b j) ∧ V.ent a k ≤ V.ent b k := ⟨fun h => ⟨fun j hj => h j (by omega), h k (by omega)⟩, fun h j hj => by
      by_cases hjk : j = k
      · rw [hjk]; exact h.2
      · exact h.1 j (by omega)⟩
    rw [s1, s2, ← h1, ← h2, hw_succ]
    generalize hw a b k = h at ih
    generalize V.ent a k = x
    generalize V.ent b k = y
    clear s1 s2 h1 h2
    have hm : h = 0 ∨ h = 1 ∨ h = 2 ∨ h = 3 := by omega
    rcases hm with rfl | rfl | rfl | rfl
    all_goals
      rcases Int.lt_trichotomy x y with c | c | c
      · rw [if_pos c, if_neg (by omega)]; simp; try omega
      · rw [if_neg (by omega), if_neg (by omega)]; simp; try omega
      · rw [if_neg (by omega), if_pos c]; simp; try omega

theorem hw_cmp {a b : List Int} {n : Nat} (ha : a.length ≤ n) (hb : b.length ≤ n) : V.cmp a b = (hw a b n : Nat) := by
  obtain ⟨h1, h2⟩ := hw_bits a b n
  have h4 := hw_lt a b n
  have e1 : (∀ j, j < n → V.ent b j ≤ V.ent a j) ↔ V.le b a := ⟨fun h j => by
    by_cases hj : j < n
    · exact h j hj
    · rw [V.ent_out (show b.length ≤ j by omega)]; exact V.ent_nonneg _ _, fun h j _ => h j⟩
  have e2 : (∀ j, j < n → V.ent a j ≤ V.ent b j) ↔ V.le a b := ⟨fun h j => by
    by_cases hj : j < n
    · exact h j hj
    · rw [V.ent_out (show a.length ≤ j by omega)]; exact V.ent_nonneg _ _, fun h j _ => h j⟩
  rw [e1] at h1
  rw [e2] at h2
  rcases V.cmp_cases a b with ⟨h, x, y⟩ | ⟨h, x, y⟩ | ⟨h, x, y⟩ | ⟨h, x, y⟩
  all_goals
    rw [h]
    first
      | rw [← h1] at y
      | skip
    first
      | rw [← h2] at x
      | skip
    omega

theorem or_one (h : Nat) (h4 : h < 4) : bits .or .i64 (h : Int) 1 = ((h ||| 1 : Nat) : Int) := by
  match h, h4 with
  | 0, _ => rfl
  | 1, _ => rfl
  | 2, _ => rfl
  | 3, _ => rfl
theorem or_two (h : Nat) (h4 : h < 4) : bits .or .i64 (h : Int) 2 = ((h ||| 2 : Nat) : Int) := by
  match h, h4 with
  | 0, _ => rfl
  | 1, _ => rfl
  | 2, _ => rfl
  | 3, _ => rfl
theorem or_one_lt (h : Nat) (h4 : h < 4) : h ||| 1 < 4 := by
  match h, h4 with
  | 0, _ => decide
  | 1, _ => decide
  | 2, _ => decide
  | 3, _ => decide

set_option maxHeartbeats 2000000 in
theorem cmpOk : CmpOk := by
  intro l1 h1 l2 h2 a b w va vb ha hb ia ib na nb
  have HA : Hid (∀ (i : Nat) W, i ≤ 1000000 → Qt w W → Calls Try.prog 18 #[va, .int .i64 (i : Int)] W fun e w' => e = .returned (.int .i64 (V.ent a i)) ∧ Qt W w') := fun i W hi hW => get_at (ha.qt hW) ia na i hi
  have HB : Hid (∀ (i : Nat) W, i ≤ 1000000 → Qt w W → Calls Try.prog 18 #[vb, .int .i64 (i : Int)] W fun e w' => e = .returned (.int .i64 (V.ent b i)) ∧ Qt W w') := fun i W hi hW => get_at (hb.qt hW) ib nb i hi
  obtain ⟨ao, ca, rfl, ha1, ha2, _⟩ := ha.open
  obtain ⟨bo, cb, rfl, hb1, hb2, _⟩ := hb.open
  clear ha hb
  have hmax : ∀ (ts : Array TypeId) (ty : TypeId) (W : World), (Builtin.max_ ts ty #[.int .i64 (a.length : Int), .int .i64 (b.length : Int)]).run Try.prog W = .ok (.int .i64 ((max a.length b.length : Nat) : Int)) W := fun ts ty W => by
    rw [Lib.run_max_ints]
    congr 2
    omega
  have HC := Lib.hid (hw_cmp (a := a) (b := b) (n := max a.length b.length) (by omega) (by omega))
  have hM : max a.length b.length ≤ 1000000 := by omega
  go_enter Try.func16, Try.ntmps16
  generalize max a.length b.length = M at *
  go_wp2_with fail
  go_loopw [5, 6, 7, 8, 14] (fun h _ _ _ i wr => ∃ k H : Nat, k ≤ M ∧ i = .int .i64 k ∧ h = .int .i64 H ∧ H < 4 ∧ Hid (hw a b k = H) ∧ Qt w wr) (fun _ _ _ _ i _ => M - (intOf i).toNat)
  case atStart => exact ⟨0, 0, Nat.zero_le _, rfl, rfl, by omega, rfl, Qt.refl _⟩
  case round =>
    obtain ⟨k, H, hk, rfl, rfl, hH, HW, hq⟩ := hrel
    have HQ := Lib.hid hq
    clear hq
    by_cases hlt : k < M
    · have HST : Hid (hw a b (k + 1) = (H ||| (if V.ent a k < V.ent b k then 1 else 0)) ||| (if V.ent b k < V.ent a k then 2 else 0)) := by
        show _ = _
        rw [← HW.out]
        rfl
      have HLT := Lib.hid (hw_lt a b (k + 1))
      have CA : Hid (∀ W, Qt w W → Calls Try.prog 18 #[.slice ao a.length ca, .int .i64 (k : Int)] W fun e w' => e = .returned (.int .i64 (V.ent a k)) ∧ Qt w w') := fun W hW => (HA.out k _ (by omega) hW).mono fun e w' h => ⟨h.1, hW.trans h.2⟩
      have CB : Hid (∀ W, Qt w W → Calls Try.prog 18 #[.slice bo b.length cb, .int .i64 (k : Int)] W fun e w' => e = .returned (.int .i64 (V.ent b k)) ∧ Qt w w') := fun W hW => (HB.out k _ (by omega) hW).mono fun e w' h => ⟨h.1, hW.trans h.2⟩
      have e1 := or_one H hH
      have e2 := or_two H hH
      generalize V.ent a k = x at *
      generalize V.ent b k = y at *
      go_wp2_with fail
      refine (CA.out _ HQ.out).mono ?_
      rintro e w1 ⟨rfl, hq⟩
      have HQ1 := Lib.hid hq
      clear hq
      go_wp2_with fail
      refine (CB.out _ HQ1.out).mono ?_
      rintro e w2 ⟨rfl, hq⟩
      have HQ2 := Lib.hid hq
      clear hq
      rcases Int.lt_trichotomy x y with c | c | c
      · have c2 : ¬ y < x := by omega
        have HS2 : Hid (hw a b (k + 1) = H ||| 1) := by
          show _ = _
          rw [HST.out, if_pos c, if_neg c2, Nat.or_zero]
        go_wp2_with fail
        go_roundw
        case rel => exact ⟨k + 1, H ||| 1, by omega, by go_num, by first | rfl | rw [e1], by rw [← HS2.out]; exact HLT.out, HS2.out, HQ2.out⟩
        case measure => simp [intOf]; omega
      · have c1 : ¬ x < y := by omega
        have c2 : ¬ y < x := by omega
        have HS2 : Hid (hw a b (k + 1) = H) := by
          show _ = _
          rw [HST.out, if_neg c1, if_neg c2, Nat.or_zero, Nat.or_zero]
        go_wp2_with fail
        go_roundw
        case rel => exact ⟨k + 1, H, by omega, by go_num, rfl, hH, HS2.out, HQ2.out⟩
        case measure => simp [intOf]; omega
      · have c1 : ¬ x < y := by omega
        have HS2 : Hid (hw a b (k + 1) = H ||| 2) := by
          show _ = _
          rw [HST.out, if_neg c1, if_pos c, Nat.or_zero]
        go_wp2_with fail
        go_roundw
        case rel => exact ⟨k + 1, H ||| 2, by omega, by go_num, by first | rfl | rw [e2], by rw [← HS2.out]; exact HLT.out, HS2.out, HQ2.out⟩
        case measure => simp [intOf]; omega
    · obtain rfl : k = M := by omega
      go_wp2_with fail
      go_returns
      rw [HC.out, HW.out]
      exact ⟨rfl, HQ.out⟩

/-- A block that holds these numbers, and no more. -/
def RowZ (w : World) (g : Nat) (l : List Int) : Prop := ∃ cur : Array Value, w.heap[g]? = some (.cells cur 3) ∧ cur.toList = l.map (.int .i64)

theorem RowZ.size {l : List Int} {cur : Array Value} (h : cur.toList = l.map (.int .i64)) : cur.size = l.length := by
  rw [← Array.length_toList, h, List.length_map]

theorem RowZ.cell {w : World} {g : Nat} {l : List Int} (h : RowZ w g l) {k : Nat} (hk : k < l.length) : w.cell? ⟨g, k, none⟩ = some (.int .i64 (l.getD k 0)) ∧ w.frozen? ⟨g, k, none⟩ = false := by
  obtain ⟨cur, h1, h2⟩ := h
  have h3 : cur[k]? = some (.int .i64 (l.getD k 0)) := by
    rw [← Array.getElem?_toList, h2]
    simp [List.getD, hk]
  exact ⟨by simp [World.cell?, h1, h3], by simp [World.frozen?, h1]⟩

theorem RowZ.set {w : World} {g : Nat} {l : List Int} (h : RowZ w g l) (k : Nat) (y : Int) : RowZ (w.setCell ⟨g, k, none⟩ (.int .i64 y)) g (l.set k y) := by
  obtain ⟨cur, h1, h2⟩ := h
  refine ⟨cur.setIfInBounds k (.int .i64 y), by simp [World.setCell, Array.getElem?_modify, h1], ?_⟩
  rw [Array.toList_setIfInBounds, h2, List.map_set]

theorem RowZ.keep {w w' : World} {g : Nat} {l : List Int} (h : RowZ w g l) (k : Kp 0 0 w w') : RowZ w' g l := by
  obtain ⟨cur, h1, h2⟩ := h
  exact ⟨cur, k.heap h1 (.inr (Nat.zero_le _)), h2⟩

theorem RowZ.own {w : World} {lo g n : Nat} {l : List Int} (h : RowZ w g l) (hg : lo ≤ g) (hn : l.length = n) (hm : n ≤ maxLen) : OwnI .i64 3 lo w.heap.size w (.slice (some ⟨g, 0, none⟩) n n) l := by
  obtain ⟨cur, h1, h2⟩ := h
  have h3 := RowZ.size h2
  refine OwnI.of_rowN ⟨by simp [hn], .inr ⟨g, n, cur, rfl, hg, h1, Nat.le_refl _, hm, by omega, ?_⟩⟩ hn
  rw [Nat.mul_one, List.take_of_length_le (by rw [Array.length_toList]; omega), h2]

/-- What stands in the row when k of its places are written. -/
def jrow (a b : List Int) (n k : Nat) : List Int := (List.range n).map fun i => if i < k then max (V.ent a i) (V.ent b i) else 0
theorem jrow_len (a b : List Int) (n k : Nat) : (jrow a b n k).length = n := by simp [jrow]
theorem jrow_set (a b : List Int) (n k : Nat) : (jrow a b n k).set k (max (V.ent a k) (V.ent b k)) = jrow a b n (k + 1) := by
  apply List.ext_getElem
  · simp [jrow]
  intro i h1 h2
  rw [List.getElem_set]
  simp only [jrow, List.getElem_map, List.getElem_range]
  by_cases hik : k = i
  · rw [if_pos hik, ← hik, if_pos (by omega)]
  · rw [if_neg hik]
    by_cases hl : i < k
    · rw [if_pos hl, if_pos (by omega)]
    · rw [if_neg hl, if_neg (by omega)]
theorem jrow_all (a b : List Int) : jrow a b (max a.length b.length) (max a.length b.length) = V.join a b := by
  unfold jrow V.join
  apply List.map_congr_left
  intro i hi
  rw [if_pos (List.mem_range.1 hi)]
theorem jrow_none (a b : List Int) (n : Nat) : jrow a b n 0 = List.replicate n 0 := by
  apply List.ext_getElem
  · simp [jrow]
  intro i h1 h2
  simp [jrow]

theorem made_zeros (n : Nat) {a b : List Int} : (madeCells #[Value.int .i64 0] n).toList = (jrow a b n 0).map (.int .i64) := by
  rw [jrow_none]
  apply List.ext_getElem
  · simp [madeCells]
  intro i h1 h2
  simp [madeCells, Nat.mod_one]

set_option maxHeartbeats 2000000 in
theorem joinOk : JoinOk := by
  intro l1 h1 l2 h2 a b w va vb ha hb ia ib na nb
  have HA : Hid (∀ (i : Nat) W, i ≤ 1000000 → Kp 0 0 w W → Calls Try.prog 18 #[va, .int .i64 (i : Int)] W fun e w' => e = .returned (.int .i64 (V.ent a i)) ∧ Kp 0 0 W w') := fun i W hi hW => Calls.kp_of_qt (get_at (ha.keep0 hW) ia na i hi)
  have HB : Hid (∀ (i : Nat) W, i ≤ 1000000 → Kp 0 0 w W → Calls Try.prog 18 #[vb, .int .i64 (i : Int)] W fun e w' => e = .returned (.int .i64 (V.ent b i)) ∧ Kp 0 0 W w') := fun i W hi hW => Calls.kp_of_qt (get_at (hb.keep0 hW) ib nb i hi)
  obtain ⟨ao, ca, rfl, ha1, ha2, _⟩ := ha.open
  obtain ⟨bo, cb, rfl, hb1, hb2, _⟩ := hb.open
  clear ha hb
  have hmax : ∀ (ts : Array TypeId) (ty : TypeId) (W : World), (Builtin.max_ ts ty #[.int .i64 (a.length : Int), .int .i64 (b.length : Int)]).run Try.prog W = .ok (.int .i64 ((max a.length b.length : Nat) : Int)) W := fun ts ty W => by
    rw [Lib.run_max_ints]
    congr 2
    omega
  have HJ := Lib.hid (jrow_all a b)
  have hM : max a.length b.length ≤ 1000000 := by omega
  go_enter Try.func11, Try.ntmps11
  generalize max a.length b.length = M at *
  have hmk := run_make_row' (P := Try.prog) 22 3 (.int .i64 0) 8 Try.underlying22 info_int rfl .i64 .i64 M (by omega) (by omega) w
  have HR0 : Hid (RowZ (w.alloc (.cells (madeCells #[.int .i64 0] M) 3)) w.heap.size (jrow a b M 0)) := ⟨_, heap_alloc_new w _, made_zeros M⟩
  have HK0 : Hid (Kp 0 0 w (w.alloc (.cells (madeCells #[.int .i64 0] M) 3))) := (Kp.refl _ _ _).alloc _
  go_wp2_with fail
  generalize w.alloc (.cells (madeCells #[.int .i64 0] M) 3) = w0 at *
  generalize hg : w.heap.size = g at *
  have HG := Lib.hid hg
  clear hg hmk hmax
  go_loopw [6, 15] (fun _ i wr => ∃ k : Nat, k ≤ M ∧ i = .int .i64 k ∧ RowZ wr g (jrow a b M k) ∧ Kp 0 0 w wr) (fun _ i _ => M - (intOf i).toNat)
  case atStart => exact ⟨0, Nat.zero_le _, rfl, HR0.out, HK0.out⟩
  case round =>
    obtain ⟨k, hk, rfl, hrow, hkp⟩ := hrel
    have HR := Lib.hid hrow
    have HK := Lib.hid hkp
    clear hrow hkp
    by_cases hlt : k < M
    · have HJS := Lib.hid (jrow_set a b M k)
      have HAK := Lib.hid (HA.out k)
      have HBK := Lib.hid (HB.out k)
      generalize V.ent a k = x at *
      generalize V.ent b k = y at *
      have j0 : (0 : Int) ≤ (k : Int) := Int.natCast_nonneg _
      have j1 : (k : Int) < (M : Int) := by omega
      go_wp2_with fail
      refine (HAK.out _ (by omega) HK.out).mono ?_
      rintro e w1 ⟨rfl, hk1⟩
      have HK1 := Lib.hid (HK.out.trans hk1)
      have HR1 := Lib.hid (HR.out.keep hk1)
      clear hk1
      go_wp2_with fail
      refine (HBK.out _ (by omega) HK1.out).mono ?_
      rintro e w2 ⟨rfl, hk1⟩
      have HK2 := Lib.hid (HK1.out.trans hk1)
      have HR2 := Lib.hid (HR1.out.keep hk1)
      clear hk1
      have hc := (HR2.out.cell (k := k) (by rw [jrow_len]; exact hlt)).1
      have hf := (HR2.out.cell (k := k) (by rw [jrow_len]; exact hlt)).2
      generalize (jrow a b M k).getD k 0 = z at hc
      go_wp2_with fail
      go_roundw
      case rel => exact ⟨k + 1, by omega, by go_num, by rw [← HJS.out]; exact HR2.out.set k _, HK2.out.setCell (.inl (Nat.le_of_eq HG.out)) _⟩
      case measure => simp [intOf]; omega
    · obtain rfl : k = M := by omega
      have hrow := HR.out
      rw [HJ.out] at hrow
      have hn : (V.join a b).length = k := by rw [← HJ.out, jrow_len]
      go_wp2_with fail
      go_returns
      exact ⟨_, rfl, hrow.own (Nat.le_of_eq HG.out) hn (by unfold maxLen; omega), HK.out⟩

set_option maxHeartbeats 2000000 in
theorem sumOk : SumOk := by
  intro l1 h1 l w v hl il nl
  have HA : Hid (∀ (i : Nat) W, i ≤ 1000000 → Qt w W → Calls Try.prog 18 #[v, .int .i64 (i : Int)] W fun e w' => e = .returned (.int .i64 (V.ent l i)) ∧ Qt w w') := fun i W hi hW => (get_at (hl.qt hW) il nl i hi).mono fun e w' h => ⟨h.1, hW.trans h.2⟩
  obtain ⟨ao, ca, rfl, ha1, ha2, _⟩ := hl.open
  clear hl
  go_enter Try.func12, Try.ntmps12
  go_wp2_with fail
  go_loopw [4, 5, 6, 9] (fun s _ _ i wr => ∃ (k : Nat) (S : Int), k ≤ l.length ∧ i = .int .i64 k ∧ s = .int .i64 S ∧ 0 ≤ S ∧ S ≤ 9223372036854775807 ∧ Hid (V.tot l k = S) ∧ Qt w wr) (fun _ _ _ i _ => l.length - (intOf i).toNat)
  case atStart => exact ⟨0, 0, Nat.zero_le _, rfl, rfl, by omega, by omega, rfl, Qt.refl _⟩
  case round =>
    obtain ⟨k, S, hk, rfl, rfl, hS0, hS1, HS, hq⟩ := hrel
    have HQ := Lib.hid hq
    clear hq
    by_cases hlt : k < l.length
    · have HNO := Lib.hid (tot_step_no (l := l) (k := k) hlt)
      have HT : Hid (V.tot l (k + 1) = V.tot l k + V.ent l k) := rfl
      have hx0 := V.ent_nonneg l k
      have HAK := Lib.hid (HA.out k)
      rw [HS.out] at HNO HT
      generalize V.ent l k = x at *
      go_wp2_with fail
      refine (HAK.out _ (by omega) HQ.out).mono ?_
      rintro e w2 ⟨rfl, hq⟩
      have HQ2 := Lib.hid hq
      clear hq
      by_cases hx : 9223372036854775807 - S < x
      · have HF := Lib.hid (HNO.out hx)
        go_wp2_with fail
        go_returns
        rw [HF.out]
        exact ⟨rfl, HQ2.out⟩
      · go_wp2_with fail
        go_roundw
        case rel => exact ⟨k + 1, S + x, by omega, by go_num, by first | go_num | (simp; omega), by omega, by omega, HT, HQ2.out⟩
        case measure => simp [intOf]; omega
    · obtain rfl : k = l.length := by omega
      have HV : Hid (V.sum l = (S, true)) := by
        show _ = _
        have : V.all l = S := HS.out
        rw [V.sum_yes (by rw [this]; exact hS1), this]
      go_wp2_with fail
      go_returns
      rw [HV.out]
      exact ⟨by first | rfl | (simp; omega), HQ.out⟩

end Go.Proofs.Ytfijhmlinpjaiaa
