/-
  What the laws ask of package frame's Put, Get and Scan; and, where they keep it, that the chapter's frame comes out right.
-/
import Derived.Test.YtpdkfafnffihjaaDoorFScan
namespace Go.Proofs.YtpdkfafnffihjaaDoor
open Go.RowKit

/-- Put keeps the document. -/
def PutOk : Prop := ∀ (l1 h1 : Nat) (k : Int) (b : List Nat) (w : World) (vb : Value), RdI .u8 l1 h1 w vb (ints b) → (∀ x ∈ b, x < 256) → (-9223372036854775808 ≤ k ∧ k ≤ 9223372036854775807) → Tabs w →
  Calls Tryd.prog 12 #[.agg #[.int .i64 k, vb]] w fun e w' => ∃ v, e = .returned (.tuple #[v, .int .i64 (Fr.put k b).2]) ∧ OwnI .u8 5 w.heap.size w'.heap.size w' v (ints (Fr.put k b).1) ∧ Kp 0 0 w w'

/-- Get keeps the document. -/
def GetOk : Prop := ∀ (l1 h1 : Nat) (l : List Nat) (w : World) (v : Value), RdI .u8 l1 h1 w v (ints l) → (∀ x ∈ l, x < 256) → Tabs w →
  Calls Tryd.prog 16 #[v] w fun e w' => GotV w e w' (Fr.get l)

/-- Scan keeps the document. -/
def ScanOk : Prop := ∀ (l1 h1 : Nat) (l : List Nat) (w : World) (v : Value), RdI .u8 l1 h1 w v (ints l) → (∀ x ∈ l, x < 256) → l.length ≤ 1000000 → Tabs w →
  Calls Tryd.prog 18 #[v] w fun e w' => ∃ v', e = .returned (.tuple #[v', .int .i64 ((Fr.scan l).2 : Nat)]) ∧ OwnF w.heap.size w'.heap.size w' v' (Fr.scan l).1 ∧ Kp 0 0 w w'

theorem lit_ints (e : TypeId) (w : World) (zs : List Nat) (h : zs.length ≤ maxLen) : RdI .u8 w.heap.size (w.heap.size + 1) (w.alloc (.cells ((ints zs).map (.int .u8)).toArray e)) (.slice (some ⟨w.heap.size, 0, none⟩) zs.length zs.length) (ints zs) := by
  have := lit_rd .u8 e w (ints zs) (by rw [ints_len]; exact h)
  rwa [ints_len] at this

theorem chap_put : Fr.put 7 [1, 2] = ([7, 0, 0, 2, 1, 2, 88, 86, 21, 24, 10], 0) := by decide +kernel

theorem chap_get : Fr.get [7, 0, 0, 2, 1, 2, 88, 86, 21, 24, 10, 9] = (7, [1, 2], 11, 0) := by decide +kernel
theorem chap_short : Fr.get [7, 0, 0, 2, 1, 2, 88, 86, 21, 24] = (0, [], 0, 4) := by decide +kernel

set_option maxRecDepth 100000 in
set_option maxHeartbeats 2000000 in
theorem shown_any (HP : PutOk) (HG : GetOk) (w : World) (ht : Tabs w) : Calls Tryd.prog 10 #[] w fun e w' => e = .returned (.bool true) ∧ Kp 0 0 w w' := by
  have HT := Lib.hid ht
  clear ht
  go_enter Tryd.func10, Tryd.ntmps10
  go_wp2_with fail
  have HKA : Hid (Kp 0 0 w (w.alloc (.cells #[.int .u8 1, .int .u8 2] 5))) := (Kp.refl _ _ _).alloc _
  have hput := HP _ _ 7 [1, 2] _ _ (lit_ints 5 w [1, 2] (by decide)) (by decide) ⟨by decide, by decide⟩ (HT.out.keep HKA.out)
  rw [chap_put] at hput
  refine hput.mono ?_
  clear hput
  rintro e w1 ⟨v1, rfl, hown, hk⟩
  obtain ⟨ao1, c1, rfl, hc1, hc2, hcl⟩ := hown.rd.open
  obtain ⟨g1, o1, rfl, _, _, hcc⟩ := cl_nat hcl (by decide)
  have cA := hcc 10 (by decide)
  have HO1 := Lib.hid hown
  have HK1 := Lib.hid (HKA.out.trans hk)
  have HC1 := Lib.hid cA
  simp only [ints, List.length_map, List.length_cons, List.length_nil, Nat.zero_add, Nat.reduceAdd] at hc1 ⊢
  have HP6 : Hid (RdI .u8 0 w1.heap.size w1 (.slice (some ⟨g1, o1, none⟩) 6 c1) (ints [7, 0, 0, 2, 1, 2])) := (hown.rd.pre (n := 6) (by decide)).wide (Nat.zero_le _) (Nat.le_refl _)
  have HP10 : Hid (RdI .u8 0 w1.heap.size w1 (.slice (some ⟨g1, o1, none⟩) 10 c1) (ints [7, 0, 0, 2, 1, 2, 88, 86, 21, 24])) := (hown.rd.pre (n := 10) (by decide)).wide (Nat.zero_le _) (Nat.le_refl _)
  have HP11 : Hid (RdI .u8 0 w1.heap.size w1 (.slice (some ⟨g1, o1, none⟩) 11 c1) (ints [7, 0, 0, 2, 1, 2, 88, 86, 21, 24, 10])) := hown.rd.wide (Nat.zero_le _) (Nat.le_refl _)
  clear hown hk hcl hcc cA
  go_wp2_with fail
  have HKB : Hid (Kp 0 0 w1 (w1.alloc (.cells #[.int .u8 7, .int .u8 0, .int .u8 0, .int .u8 2, .int .u8 1, .int .u8 2] 5))) := (Kp.refl _ _ _).alloc _
  refine (same_yes _ _ _ (ints [7, 0, 0, 2, 1, 2]) (HP6.out.keep0 HKB.out) (lit_ints 5 w1 [7, 0, 0, 2, 1, 2] (by decide))).mono ?_
  rintro e w2 ⟨rfl, hk⟩
  have HK12 := Lib.hid (HKB.out.trans hk)
  have HK2 := Lib.hid (HK1.out.trans HK12.out)
  have cA := HK12.out.cell HC1.out (.inr (Nat.zero_le _))
  rw [show ([7, 0, 0, 2, 1, 2, 88, 86, 21, 24, 10] : List Nat).getD 10 0 = 10 from rfl] at cA
  clear hk
  have hc6 : (6 : Int) ≤ (c1 : Int) := by omega
  have hc10 : (10 : Int) ≤ (c1 : Int) := by omega
  obtain ⟨i0, hi, hz0, hz1, hz2⟩ := info_parts info_u8
  have HE0 : Hid ((w2.alloc (.cells #[] 5)).ownsRow w2.heap.size 5 1 (.slice (some ⟨w2.heap.size, 0, none⟩) 0 0) 0 []) := own_lit (w := w2) (base := w2.heap.size) (n := 0) #[] 5 (Nat.le_refl _) rfl (by decide)
  have HKE : Hid (Kp 0 0 w1 (w2.alloc (.cells #[] 5))) := HK12.out.alloc _
  go_wp2_with (at_builtin; refine wpList_app rfl _ _ 22 rfl w2.heap.size 5 .u8 1 Tryd.underlying22 info_u8 _ 0 [] rfl HE0.out _ rfl (ints [7, 0, 0, 2, 1, 2, 88, 86, 21, 24, 10]) (HP11.out.keep0 HKE.out) ?c3 ?c4 ?c5 ?_)
  case c3 => decide
  case c4 => decide
  case c5 => simp
  intro v3 w3 hown3 hg3
  have HK3 : Hid (Kp 0 0 w1 w3) := HKE.out.grown hg3 fun j hj => .inl (by
    simp only [Value.ownBlock, Option.some.injEq] at hj
    subst hj
    exact HK12.out.size)
  have hsz3 := hg3.size
  have HO3 := Lib.hid hown3
  have hs2 : w2.heap.size ≤ w3.heap.size := by simp at hsz3; omega
  clear hown3 hg3 hsz3
  go_wp2_with (at_builtin; refine wpList_append_own _ rfl _ _ 22 rfl w2.heap.size 5 i0 (.int .u8 0) 1 1 Tryd.underlying22 hi hz0 hz1 hz2 rfl (by decide) _ _ _ rfl (HO3.out.alloc _) ⟨w3.heap.size, 0, none⟩ 1 1 [.int .u8 9] rfl rfl (cell_one _ _ _) (by simp [Value.oneCell']) ?c3 ?c4 ?c5 ?_)
  case c3 => decide
  case c4 => decide
  case c5 => simp; omega
  intro v4 w4 hown4 hg4 _
  have HK4 : Hid (Kp 0 0 w1 w4) := (HK3.out.alloc _).grown hg4 fun j hj => .inl (Nat.le_trans HK12.out.size (HO3.out.lt j hj).1)
  have HO4 : Hid (RdI .u8 w2.heap.size w4.heap.size w4 v4 (ints [7, 0, 0, 2, 1, 2, 88, 86, 21, 24, 10, 9])) := (OwnI.of_rowN (l := ints [7, 0, 0, 2, 1, 2, 88, 86, 21, 24, 10, 9]) hown4 rfl).rd
  clear hown4 hg4
  go_wp2_with fail
  have hget := HG _ _ [7, 0, 0, 2, 1, 2, 88, 86, 21, 24, 10, 9] w4 v4 HO4.out (by decide) (HT.out.keep (HK1.out.trans HK4.out))
  rw [chap_get] at hget
  refine hget.mono ?_
  clear hget
  rintro e w5 ⟨v5, rfl, hown5, hk5⟩
  obtain ⟨ao5, c5, rfl, _, _, _⟩ := hown5.rd.open
  have HO5 := Lib.hid hown5
  have HK5 := Lib.hid (HK4.out.trans hk5)
  clear hown5 hk5
  go_wp2_with fail
  rw [show (ints [1, 2]).length = 2 from rfl]
  have HKF : Hid (Kp 0 0 w5 (w5.alloc (.cells #[.int .i64 7, .slice ao5 2 c5] 24))) := (Kp.refl _ _ _).alloc _
  have CF0 : Hid ((w5.alloc (.cells #[.int .i64 7, .slice ao5 2 c5] 24)).cell? ⟨w5.heap.size, 0, none⟩ = some (.int .i64 7)) := by show _ = _; simp
  have CF1 : Hid ((w5.alloc (.cells #[.int .i64 7, .slice ao5 2 c5] 24)).cell? ⟨w5.heap.size, 1, none⟩ = some (.slice ao5 2 c5)) := by show _ = _; simp
  generalize w5.alloc (.cells #[.int .i64 7, .slice ao5 2 c5] 24) = wf at HKF CF0 CF1 ⊢
  generalize w5.heap.size = pf at CF0 CF1 ⊢
  have hget := HG _ _ [7, 0, 0, 2, 1, 2, 88, 86, 21, 24] wf _ (HP10.out.keep0 (HK5.out.trans HKF.out)) (by decide) (HT.out.keep (HK1.out.trans (HK5.out.trans HKF.out)))
  rw [chap_short] at hget
  refine hget.mono ?_
  clear hget
  rintro e w6 ⟨v6, rfl, hown6, hk6⟩
  obtain ⟨ao6, c6, rfl, _, _, _⟩ := hown6.rd.open
  clear hown6
  rw [show (ints ([] : List Nat)).length = 0 from rfl]
  have HKF6 : Hid (Kp 0 0 wf (w6.alloc (.cells #[.int .i64 0, .slice ao6 0 c6] 24))) := hk6.alloc _
  have HK6 : Hid (Kp 0 0 w (w6.alloc (.cells #[.int .i64 0, .slice ao6 0 c6] 24))) := HK1.out.trans ((HK5.out.trans HKF.out).trans HKF6.out)
  have cf0 := HKF6.out.cell CF0.out (.inr (Nat.zero_le _))
  have cf1 := HKF6.out.cell CF1.out (.inr (Nat.zero_le _))
  have HO6 : Hid (RdI .u8 w4.heap.size w5.heap.size (w6.alloc (.cells #[.int .i64 0, .slice ao6 0 c6] 24)) (.slice ao5 2 c5) (ints [1, 2])) := (HO5.out.rd.keep0 HKF.out).keep0 HKF6.out
  have HSX : Hid (∀ W, Kp 0 0 (w6.alloc (.cells #[.int .i64 0, .slice ao6 0 c6] 24)) W → Calls Tryd.prog 14 #[.slice ao5 2 c5, .slice (some ⟨W.heap.size, 0, none⟩) 2 2] (W.alloc (.cells #[.int .u8 1, .int .u8 2] 5)) fun e w' => e = .returned (.bool true) ∧ Kp 0 0 (w6.alloc (.cells #[.int .i64 0, .slice ao6 0 c6] 24)) w') := fun W hW => by
    have hA : Kp 0 0 (w6.alloc (.cells #[.int .i64 0, .slice ao6 0 c6] 24)) (W.alloc (.cells #[.int .u8 1, .int .u8 2] 5)) := hW.alloc _
    exact (same_yes _ _ _ (ints [1, 2]) (HO6.out.keep0 hA) (lit_ints 5 W [1, 2] (by decide))).mono fun e w' h => ⟨h.1, hA.trans h.2⟩
  clear hk6
  go_wp2_with fail
  have hsx := HSX.out _ (Kp.refl _ _ _)
  rw [show (w6.alloc (.cells #[.int .i64 0, .slice ao6 0 c6] 24)).heap.size = w6.heap.size + 1 by simp] at hsx
  refine hsx.mono ?_
  clear hsx
  rintro e w7 ⟨rfl, hk⟩
  have HK7 := Lib.hid (HK6.out.trans hk)
  clear hk
  go_wp2_with fail
  go_returns
  exact ⟨rfl, HK7.out⟩

end Go.Proofs.YtpdkfafnffihjaaDoor
