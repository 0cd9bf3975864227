/-
  The document's answer for package vec: Cmp, Join, Sum.
-/
import Derived.Test.YtfijhmlinpjaiaaVRef
namespace Go.Proofs.Ytfijhmlinpjaiaa
open Go.RowKit

set_option maxHeartbeats 1000000 in
theorem refCmp_any {l1 h1 l2 h2 : Nat} (a b : List Int) (w : World) (va vb : Value) (ha : RdI .i64 l1 h1 w va a) (hb : RdI .i64 l2 h2 w vb b) :
    Calls Try.prog 17 #[va, vb] w fun e w' => e = .returned (.int .i64 (V.cmp a b)) ∧ Qt w w' := by
  have H1 := Lib.hid (refCovers_any a b w va vb ha hb)
  have H2 : Hid (∀ W, Qt w W → Calls Try.prog 25 #[vb, va] W fun e w' => e = .returned (.bool (V.leB a b)) ∧ Qt w w') := fun W hW => (refCovers_any b a W vb va (hb.qt hW) (ha.qt hW)).mono fun e w' h => ⟨h.1, hW.trans h.2⟩
  have HC : Hid (V.cmp a b = if V.leB a b then (if V.leB b a then 0 else 1) else if V.leB b a then 2 else 3) := rfl
  obtain ⟨ao, ca, rfl, ha1, ha2, _⟩ := ha.open
  obtain ⟨bo, cb, rfl, hb1, hb2, _⟩ := hb.open
  clear ha hb
  generalize V.leB b a = x at *
  generalize V.leB a b = y at *
  generalize V.cmp a b = r at *
  go_enter Try.func17, Try.ntmps17
  go_wp2_with fail
  refine H1.out.mono ?_
  rintro e w1 ⟨rfl, hq⟩
  have HQ1 := Lib.hid hq
  clear hq
  go_wp2_with fail
  refine (H2.out _ HQ1.out).mono ?_
  rintro e w2 ⟨rfl, hq⟩
  have HQ2 := Lib.hid hq
  clear hq
  cases x <;> cases y
  all_goals
    go_wp2_with fail
    go_returns
    rw [HC.out]
    exact ⟨rfl, HQ2.out⟩

theorem ownsRow_keepI {base : Nat} {e : TypeId} {k n : Nat} {w w' : World} {v : Value} {xs : List Value} (h : w.ownsRow base e k v n xs) (hk : Kp 0 0 w w') : w'.ownsRow base e k v n xs := by
  obtain ⟨h1, h2⟩ := h
  refine ⟨h1, ?_⟩
  rcases h2 with hn | ⟨g, cap, cur, rfl, hb, hg, rest⟩
  · exact .inl hn
  · exact .inr ⟨g, cap, cur, rfl, hb, hk.heap hg (.inr (Nat.zero_le _)), rest⟩

set_option maxHeartbeats 2000000 in
theorem refJoin_any {l1 h1 l2 h2 : Nat} (a b : List Int) (w : World) (va vb : Value) (ha : RdI .i64 l1 h1 w va a) (hb : RdI .i64 l2 h2 w vb b) (hla : a.length ≤ 1000000) (hlb : b.length ≤ 1000000) :
    Calls Try.prog 15 #[va, vb] w fun e w' => ∃ v, e = .returned v ∧ OwnI .i64 3 w.heap.size w'.heap.size w' v (V.join a b) ∧ Kp 0 0 w w' := by
  have HA : Hid (∀ (i : Nat) W, Kp 0 0 w W → Calls Try.prog 19 #[va, .int .i64 (i : Int)] W fun e w' => e = .returned (.int .i64 (V.ent a i)) ∧ Kp 0 0 W w') := fun i W hW => Calls.kp_of_qt (refGet_nat a i W va (ha.keep0 hW))
  have HB : Hid (∀ (i : Nat) W, Kp 0 0 w W → Calls Try.prog 19 #[vb, .int .i64 (i : Int)] W fun e w' => e = .returned (.int .i64 (V.ent b i)) ∧ Kp 0 0 W w') := fun i W hW => Calls.kp_of_qt (refGet_nat b i W vb (hb.keep0 hW))
  obtain ⟨ao, ca, rfl, ha1, ha2, _⟩ := ha.open
  obtain ⟨bo, cb, rfl, hb1, hb2, _⟩ := hb.open
  obtain ⟨i0, hi, hz0, hz1, hz2⟩ := info_parts info_int
  clear ha hb
  have HJ : Hid (V.join a b = (List.range (max a.length b.length)).map fun i => max (V.ent a i) (V.ent b i)) := rfl
  go_enter Try.func15, Try.ntmps15
  go_wp2_with fail
  go_loopw [5, 6, 7] (fun v' i n wr => ∃ k : Nat, k ≤ max a.length b.length ∧ i = .int .i64 k ∧ wr.ownsRow w.heap.size 3 1 v' k (((List.range k).map fun i => max (V.ent a i) (V.ent b i)).map (.int .i64)) ∧ Kp 0 0 w wr) (fun _ i _ _ => max a.length b.length - (intOf i).toNat)
  case atStart => exact ⟨0, Nat.zero_le _, rfl, World.ownsRow_nil _ _ _ _, Kp.refl _ _ _⟩
  case round =>
    obtain ⟨k, hk, rfl, hown, hkp⟩ := hrel
    have HO := Lib.hid hown
    have HK := Lib.hid hkp
    clear hown hkp
    by_cases hlt : k < max a.length b.length
    · have hor : ((k : Int) < (a.length : Int)) ∨ ((k : Int) < (b.length : Int)) := by omega
      have HSN := Lib.hid (V.join_snoc a b k)
      have HAK := Lib.hid (HA.out k)
      have HBK := Lib.hid (HB.out k)
      generalize V.ent a k = x at *
      generalize V.ent b k = y at *
      go_wp2_with fail
      all_goals
        refine (HAK.out _ HK.out).mono ?_
        rintro e w2 ⟨rfl, hk2⟩
        have HK2 := Lib.hid (HK.out.trans hk2)
        have HO2 := Lib.hid (ownsRow_keepI HO.out hk2)
        clear hk2
        go_wp2_with fail
        refine (HBK.out _ HK2.out).mono ?_
        rintro e w3 ⟨rfl, hk2⟩
        have HK3 := Lib.hid (HK2.out.trans hk2)
        have HO3 := Lib.hid (ownsRow_keepI HO2.out hk2)
        clear hk2
        by_cases hxy : x < y
        · go_wp2_with fail
          refine (HBK.out _ HK3.out).mono ?_
          rintro e w4 ⟨rfl, hk2⟩
          have HK3 := Lib.hid (HK3.out.trans hk2)
          have hown := ownsRow_keepI HO3.out hk2
          have hsz := HK3.out.size
          clear hk2
          go_wp2_with (at_builtin; refine wpList_append_own _ rfl _ _ 22 rfl w.heap.size 3 i0 (.int .i64 0) 1 8 Try.underlying22 hi hz0 hz1 hz2 rfl (by decide) _ _ _ rfl (hown.alloc _) ⟨w4.heap.size, 0, none⟩ 1 1 [.int .i64 y] rfl rfl (cell_one _ _ _) (by simp [Value.oneCell']) ?c3 ?c4 ?c5 ?_)
          case c3 => unfold maxLen; omega
          case c4 => omega
          case c5 => simp; omega
          intro v' w5 hown' hg _
          have HK5 : Hid (Kp 0 0 w w5) := (HK3.out.alloc _).grown hg fun j hj => .inl ((hown.lt j hj).1)
          have HO5 := Lib.hid hown'
          clear hown' hg hown
          go_wp2_with fail
          go_roundw
          case rel =>
            refine ⟨k + 1, by omega, by go_num, ?_, HK5.out⟩
            have ho := HO5.out
            rw [HSN.out, show max x y = y by omega, List.map_append]
            simpa using ho
          case measure => simp [intOf]; omega
        · have hown := HO3.out
          have hsz := HK3.out.size
          go_wp2_with (at_builtin; refine wpList_append_own _ rfl _ _ 22 rfl w.heap.size 3 i0 (.int .i64 0) 1 8 Try.underlying22 hi hz0 hz1 hz2 rfl (by decide) _ _ _ rfl (hown.alloc _) ⟨w3.heap.size, 0, none⟩ 1 1 [.int .i64 x] rfl rfl (cell_one _ _ _) (by simp [Value.oneCell']) ?c3 ?c4 ?c5 ?_)
          case c3 => unfold maxLen; omega
          case c4 => omega
          case c5 => simp; omega
          intro v' w5 hown' hg _
          have HK5 : Hid (Kp 0 0 w w5) := (HK3.out.alloc _).grown hg fun j hj => .inl ((hown.lt j hj).1)
          have HO5 := Lib.hid hown'
          clear hown' hg hown
          go_wp2_with fail
          go_roundw
          case rel =>
            refine ⟨k + 1, by omega, by go_num, ?_, HK5.out⟩
            have ho := HO5.out
            rw [HSN.out, show max x y = x by omega, List.map_append]
            simpa using ho
          case measure => simp [intOf]; omega
    · obtain rfl : k = max a.length b.length := by omega
      have n1 : ¬ ((max a.length b.length : Nat) : Int) < (a.length : Int) := by omega
      have n2 : ¬ ((max a.length b.length : Nat) : Int) < (b.length : Int) := by omega
      generalize max a.length b.length = M at *
      go_wp2_with fail
      go_returns
      rw [HJ.out]
      exact ⟨_, rfl, OwnI.of_rowN HO.out (by simp), HK.out⟩

/-- How the sum goes on. -/
theorem tot_step_no {l : List Int} {k : Nat} (hk : k < l.length) (h : 9223372036854775807 - V.tot l k < V.ent l k) : V.sum l = (0, false) := V.sum_no (by
  have h1 := V.tot_mono l (j := k + 1) (k := l.length) hk
  have h2 : V.tot l (k + 1) = V.tot l k + V.ent l k := rfl
  unfold V.all
  omega)

set_option maxHeartbeats 1000000 in
theorem refSum_any {l1 h1 : Nat} (l : List Int) (w : World) (v : Value) (hl : RdI .i64 l1 h1 w v l) :
    Calls Try.prog 13 #[v] w fun e w' => e = .returned (.tuple #[.int .i64 (V.sum l).1, .bool (V.sum l).2]) ∧ Qt w w' := by
  have HA : Hid (∀ (i : Nat) W, Qt w W → Calls Try.prog 19 #[v, .int .i64 (i : Int)] W fun e w' => e = .returned (.int .i64 (V.ent l i)) ∧ Qt w w') := fun i W hW => (refGet_nat l i W v (hl.qt hW)).mono fun e w' h => ⟨h.1, hW.trans h.2⟩
  obtain ⟨ao, c, rfl, hb1, hb2, _⟩ := hl.open
  clear hl
  go_enter Try.func13, Try.ntmps13
  go_wp2_with fail
  go_loopw [4, 5] (fun s i wr => ∃ (k : Nat) (S : Int), k ≤ l.length ∧ i = .int .i64 k ∧ s = .int .i64 (9223372036854775807 - S) ∧ 0 ≤ S ∧ S ≤ 9223372036854775807 ∧ Hid (V.tot l k = S) ∧ Qt w wr) (fun _ i _ => l.length - (intOf i).toNat)
  case atStart => exact ⟨0, 0, Nat.zero_le _, rfl, rfl, by omega, by omega, rfl, Qt.refl _⟩
  case round =>
    obtain ⟨k, S, hk, rfl, rfl, hS0, hS1, HS, hq⟩ := hrel
    have HQ := Lib.hid hq
    clear hq
    by_cases hlt : k < l.length
    · have HNO := Lib.hid (tot_step_no (l := l) (k := k) hlt)
      have HT : Hid (V.tot l (k + 1) = V.tot l k + V.ent l k) := rfl
      have hx0 := V.ent_nonneg l k
      have HAK := Lib.hid (HA.out k)
      rw [HS.out] at HNO HT
      generalize V.ent l k = x at *
      go_wp2_with fail
      refine (HAK.out _ HQ.out).mono ?_
      rintro e w2 ⟨rfl, hq⟩
      have HQ2 := Lib.hid hq
      clear hq
      by_cases hx : 9223372036854775807 - S < x
      · have HF := Lib.hid (HNO.out hx)
        go_wp2_with fail
        go_returns
        rw [HF.out]
        exact ⟨rfl, HQ2.out⟩
      · go_wp2_with fail
        refine (HAK.out _ HQ2.out).mono ?_
        rintro e w3 ⟨rfl, hq⟩
        have HQ3 := Lib.hid hq
        clear hq
        have hsub : (9223372036854775807 : Int) - S - x = 9223372036854775807 - (S + x) := by omega
        go_wp2_with fail
        go_roundw
        case rel => exact ⟨k + 1, S + x, by omega, by go_num, by first | go_num | (simp; omega), by omega, by omega, HT, HQ3.out⟩
        case measure => simp [intOf]; omega
    · obtain rfl : k = l.length := by omega
      have HV : Hid (V.sum l = (S, true)) := by
        show _ = _
        have : V.all l = S := HS.out
        rw [V.sum_yes (by rw [this]; exact hS1), this]
      go_wp2_with fail
      go_returns
      rw [HV.out]
      exact ⟨by first | rfl | (simp; omega), HQ.out⟩

end Go.Proofs.Ytfijhmlinpjaiaa
