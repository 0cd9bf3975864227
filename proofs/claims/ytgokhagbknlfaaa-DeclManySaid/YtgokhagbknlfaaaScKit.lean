/-
  quaysidekit on fields: the same one twice; a copy.
-/
import Derived.Test.YtgokhagbknlfaaaScFv
import Derived.Deep.QuietTactic
namespace Go.Proofs.Ytgokhagbknlfaaa
open Go.RowKit

set_option maxRecDepth 100000 in
set_option maxHeartbeats 2000000 in
/-- SameField of one field twice: true. -/
theorem sameFl_yes {S1 S2 : Nat → Prop} (F : Fl) (w : World) (va vb : Value) (ha : RdS mvE 4 w S1 va F.ms) (hb : RdS mvE 4 w S2 vb F.ms) :
    Calls Try.prog 26 #[.agg #[.int .i64 F.k, .int .i64 F.p, .bool F.b, va], .agg #[.int .i64 F.k, .int .i64 F.p, .bool F.b, vb]] w fun r w' => r = .returned (.bool true) ∧ Kp 0 0 w w' := by
  obtain ⟨ao, ac, rfl, ha1, ha2, hac⟩ := ha.open
  obtain ⟨bo, bc, rfl, hb1, hb2, hbc⟩ := hb.open
  have e1 : (F.k != F.k) = false := by simp
  have e2 : (F.p != F.p) = false := by simp
  have e3 : (F.b != F.b) = false := by simp
  have e4 : ((F.ms.length : Int) != (F.ms.length : Int)) = false := by simp
  have HK1 : Hid (Kp 0 0 w ((w.alloc (.cells #[.int .i64 F.k, .int .i64 F.p, .bool F.b, .slice ao F.ms.length ac] 45)).alloc (.cells #[.int .i64 F.k, .int .i64 F.p, .bool F.b, .slice bo F.ms.length bc] 45))) := ((Kp.refl _ _ _).alloc _).alloc _
  have HQ0 := Lib.hid (blk_old (blk_one w (.cells #[.int .i64 F.k, .int .i64 F.p, .bool F.b, .slice ao F.ms.length ac] 45)) (.cells #[.int .i64 F.k, .int .i64 F.p, .bool F.b, .slice bo F.ms.length bc] 45))
  have HQ1 := Lib.hid (blk_two w (.cells #[.int .i64 F.k, .int .i64 F.p, .bool F.b, .slice ao F.ms.length ac] 45) (.cells #[.int .i64 F.k, .int .i64 F.p, .bool F.b, .slice bo F.ms.length bc] 45))
  have HA := Lib.hid (hac.keep0 mvE_good HK1.out)
  have HB := Lib.hid (hbc.keep0 mvE_good HK1.out)
  clear ha hb hac hbc
  go_enter Try.func26, Try.ntmps26
  go_wp2_with fail
  generalize (w.alloc (.cells #[.int .i64 F.k, .int .i64 F.p, .bool F.b, .slice ao F.ms.length ac] 45)).alloc (.cells #[.int .i64 F.k, .int .i64 F.p, .bool F.b, .slice bo F.ms.length bc] 45) = w1 at HK1 HQ0 HQ1 HA HB ⊢
  generalize w.heap.size + 1 = q1 at HQ1 ⊢
  generalize w.heap.size = q0 at HQ0 ⊢
  go_loopw [5] (fun i wr => ∃ k : Nat, k ≤ F.ms.length ∧ i = .int .i64 k ∧ Kp 0 0 w1 wr) (fun i _ => F.ms.length - (intOf i).toNat)
  case atStart => exact ⟨0, Nat.zero_le _, rfl, Kp.refl _ _ _⟩
  case round =>
    obtain ⟨k, hk, rfl, hkp⟩ := hrel
    have HK := Lib.hid hkp
    have d0 := blk_cell (hkp.heap HQ0.out (.inr (Nat.zero_le _))) (k := 3) (u := .slice ao F.ms.length ac) rfl
    have d1 := blk_cell (hkp.heap HQ1.out (.inr (Nat.zero_le _))) (k := 3) (u := .slice bo F.ms.length bc) rfl
    by_cases hlt : k < F.ms.length
    · obtain ⟨m, hmk⟩ : ∃ m, F.ms[k]? = some m := ⟨_, List.getElem?_eq_getElem hlt⟩
      obtain ⟨b1, o1, rfl, _, g0, g1, g2, g3⟩ := mv_at HA.out hmk
      obtain ⟨b2, o2, rfl, _, h0, h1, h2, h3⟩ := mv_at HB.out hmk
      have g0 := hkp.cell g0 (.inr (Nat.zero_le _))
      have g1 := hkp.cell g1 (.inr (Nat.zero_le _))
      have g2 := hkp.cell g2 (.inr (Nat.zero_le _))
      have g3 := hkp.cell g3 (.inr (Nat.zero_le _))
      have h0 := hkp.cell h0 (.inr (Nat.zero_le _))
      have h1 := hkp.cell h1 (.inr (Nat.zero_le _))
      have h2 := hkp.cell h2 (.inr (Nat.zero_le _))
      have h3 := hkp.cell h3 (.inr (Nat.zero_le _))
      have k0 : (0 : Int) ≤ (k : Int) := Int.natCast_nonneg _
      have k1 : (k : Int) < (F.ms.length : Int) := by omega
      obtain ⟨m1, m2, m3, m4⟩ := m
      dsimp only at g0 g1 g2 g3 h0 h1 h2 h3
      clear hmk hkp
      go_wp2_with fail
      go_quiet (fail)
      go_wp2_with fail
      go_roundw
      case rel => exact ⟨k + 1, by omega, by go_num, HK.out.drewN _⟩
      case measure => simp [intOf]; omega
    · go_wp2_with fail
      go_returns
      exact ⟨rfl, HK1.out.trans hkp⟩

set_option maxRecDepth 100000 in
set_option maxHeartbeats 2000000 in
/-- CopyField: the same field, its moves in memory of the call's own. -/
theorem copyFl_any {S : Nat → Prop} (F : Fl) (w : World) (va : Value) (ha : RdS mvE 4 w S va F.ms) (hm : F.ms.length ≤ 1000000) :
    Calls Try.prog 17 #[.agg #[.int .i64 F.k, .int .i64 F.p, .bool F.b, va]] w fun r w' => ∃ mv, r = .returned (fieldV F mv) ∧ OwnS mvE 73 4 w.heap.size w' (fun _ => False) mv F.ms ∧ Kp 0 0 w w' := by
  obtain ⟨mo, mc, rfl, ha1, ha2, hac⟩ := ha.open
  have HK3 : Hid (Kp 0 0 w ((w.alloc (.cells #[.int .i64 F.k, .int .i64 F.p, .bool F.b, .slice mo F.ms.length mc] 45)).alloc (.cells #[.int .i64 0, .int .i64 0, .bool false, .slice none 0 0] 45))) := ((Kp.refl _ _ _).alloc _).alloc _
  have HQ1 := Lib.hid (blk_old (blk_one w (.cells #[.int .i64 F.k, .int .i64 F.p, .bool F.b, .slice mo F.ms.length mc] 45)) (.cells #[.int .i64 0, .int .i64 0, .bool false, .slice none 0 0] 45))
  have HQ0 := Lib.hid (blk_two w (.cells #[.int .i64 F.k, .int .i64 F.p, .bool F.b, .slice mo F.ms.length mc] 45) (.cells #[.int .i64 0, .int .i64 0, .bool false, .slice none 0 0] 45))
  have HM3 := Lib.hid (hac.keep0 mvE_good HK3.out)
  clear ha hac
  go_enter Try.func17, Try.ntmps17
  go_wp2_with fail
  generalize (w.alloc (.cells #[.int .i64 F.k, .int .i64 F.p, .bool F.b, .slice mo F.ms.length mc] 45)).alloc (.cells #[.int .i64 0, .int .i64 0, .bool false, .slice none 0 0] 45) = w3 at HQ0 HQ1 HK3 HM3 ⊢
  have HQS : Hid (w.heap.size ≤ w.heap.size + 1 ∧ w.heap.size ≤ w.heap.size ∧ w.heap.size + 1 < w3.heap.size ∧ w.heap.size < w3.heap.size ∧ w.heap.size + 1 ≠ w.heap.size) := ⟨by omega, by omega, heap_lt HQ0.out, heap_lt HQ1.out, by omega⟩
  generalize hq1 : w.heap.size + 1 = q1 at HQ0 HQS ⊢
  clear hq1
  generalize hq2 : w.heap.size = q2 at HQ1 HQS ⊢
  have HQE := Lib.hid hq2
  clear hq2
  obtain ⟨i0, hi, hz0, hz1, hz2⟩ := info_parts info_mv
  generalize hL : F.ms.length = L at *
  have HL := Lib.hid hL
  clear hL
  go_loopw [3, 4] (fun v' i wr => ∃ k : Nat, k ≤ L ∧ i = .int .i64 k ∧ OwnS mvE 73 4 w3.heap.size wr (fun _ => False) v' (F.ms.take k) ∧ Kp 0 0 w3 wr) (fun _ i _ => L - (intOf i).toNat)
  case atStart => exact ⟨0, Nat.zero_le _, rfl, OwnS.nil _ _ _ _ _ _, Kp.refl _ _ _⟩
  case round =>
    obtain ⟨k, hk, rfl, hown, hkp⟩ := hrel
    have q23 := blk_cell (hkp.heap HQ1.out (.inr (Nat.zero_le _))) (k := 3) (u := .slice mo L mc) rfl
    have HK4 := Lib.hid hkp
    by_cases hlt : k < L
    · obtain ⟨m, hmk⟩ : ∃ m, F.ms[k]? = some m := ⟨_, List.getElem?_eq_getElem (by rw [HL.out]; exact hlt)⟩
      obtain ⟨b3, o3, rfl, hb3, c0, c1, c2, c3⟩ := mv_at HM3.out hmk
      have k0 : (0 : Int) ≤ (k : Int) := Int.natCast_nonneg _
      have k1 : (k : Int) < (L : Int) := by omega
      have c0 := hkp.cell c0 (.inr (Nat.zero_le _))
      have c1 := hkp.cell c1 (.inr (Nat.zero_le _))
      have c2 := hkp.cell c2 (.inr (Nat.zero_le _))
      have c3 := hkp.cell c3 (.inr (Nat.zero_le _))
      have HTS := Lib.hid (take_snoc hmk)
      have hsz := hkp.size
      obtain ⟨xs, hrow, hsp, _⟩ := hown.open (n := k) (by rw [List.length_take, HL.out]; omega)
      have HSP := Lib.hid hsp
      have hlk : Hid ((F.ms.take k).length = k) := by show _ = _; rw [List.length_take, HL.out]; omega
      clear hown hsp hmk
      go_wp2_with (at_builtin; refine wpList_append_own _ rfl _ _ 43 rfl w3.heap.size 73 i0 (.agg #[.int .i64 0, .int .i64 0, .int .i64 0, .int .i64 0]) 4 32 Try.underlying43 hi hz0 hz1 hz2 rfl (by decide) _ _ _ rfl (hrow.alloc _) ⟨wr.heap.size, 0, none⟩ 1 1 [.int .i64 m.f, .int .i64 m.t, .int .i64 m.n, .int .i64 m.l] rfl rfl (cell_lits _ _ _) (by simp [Value.oneCell']) ?c3 ?c4 ?c5 ?_)
      case c3 => unfold maxLen; omega
      case c4 => omega
      case c5 => simp; omega
      intro v' w5 hown' hg _
      have HK5 : Hid (Kp 0 0 w3 w5) := (HK4.out.alloc _).grown hg fun j hj => .inl ((ownsRow_lt hrow j hj).1)
      have HO5 := Lib.hid (OwnS.flat HSP.out hown' hlk.out rfl (fun h => h) rfl)
      clear hown' hg hrow
      go_wp2_with fail
      go_roundw
      case rel =>
        refine ⟨k + 1, by omega, by go_num, ?_, HK5.out⟩
        rw [HTS.out]
        exact HO5.out
      case measure => simp [intOf]; omega
    · obtain rfl : k = L := by omega
      have hq1 := hkp.heap HQ0.out (.inr (Nat.zero_le _))
      have hq2 := hkp.heap HQ1.out (.inr (Nat.zero_le _))
      have HO4 : Hid (OwnS mvE 73 4 w3.heap.size wr (fun _ => False) u3 F.ms) := by
        show OwnS _ _ _ _ _ _ _ _
        rw [← HL.out, List.take_length] at hown
        exact hown
      clear hown
      obtain ⟨od, cd, rfl, _, _, _⟩ := (HO4.out.rd (T := fun _ => True) mvE_good (fun _ _ _ => trivial) (fun _ _ => trivial)).open
      have hq3 := blk_set hq2 3 (.slice od F.ms.length cd)
      have hks := kp_set wr q2 3 (.slice od F.ms.length cd)
      have hq4 := hks.heap hq1 (by have := HQS.out; omega)
      have HO5 : Hid (OwnS mvE 73 4 w3.heap.size (wr.setCell ⟨q2, 3, none⟩ (.slice od F.ms.length cd)) (fun _ => False) (.slice od F.ms.length cd) F.ms) := HO4.out.keep mvE_good hks (fun _ h => h.elim) (fun b hb => by have := HO4.out; obtain ⟨_, h, _⟩ := this; have := ownsRow_lt h b hb; have := HQS.out; omega)
      have HK5 : Hid (Kp 0 0 w (wr.setCell ⟨q2, 3, none⟩ (.slice od F.ms.length cd))) := (HK3.out.trans HK4.out).step hks (fun j h1 h2 => .inl (by have := HQS.out; have := HQE.out; omega))
      have a0 := blk_cell hq3 (k := 0) (u := .int .i64 F.k) rfl
      have a1 := blk_cell hq3 (k := 1) (u := .int .i64 F.p) rfl
      have a2 := blk_cell hq3 (k := 2) (u := .bool F.b) rfl
      have a3 := blk_cell hq3 (k := 3) (u := .slice od F.ms.length cd) rfl
      have b0 := blk_cell hq4 (k := 0) (u := .int .i64 0) rfl
      have b1 := blk_cell hq4 (k := 1) (u := .int .i64 0) rfl
      have b2 := blk_cell hq4 (k := 2) (u := .bool false) rfl
      have b3 := blk_cell hq4 (k := 3) (u := .slice none 0 0) rfl
      have z0 := blk_frozen hq1 0
      have z1 := blk_frozen hq1 1
      have z2 := blk_frozen hq1 2
      have z3 := blk_frozen hq1 3
      have z4 := blk_frozen hq2 3
      clear hq3 hks hq1 hq2 hkp
      go_wp2_with fail
      obtain ⟨hst, hsk⟩ := store_four hq4 rfl (.int .i64 F.k) (.int .i64 F.p) (.bool F.b) (.slice od F.ms.length cd)
      generalize (wr.setCell ⟨q2, 3, none⟩ (.slice od F.ms.length cd)) = wt at *
      generalize ((((wt.setCell ⟨q1, 0, none⟩ (.int .i64 F.k)).setCell ⟨q1, 1, none⟩ (.int .i64 F.p)).setCell ⟨q1, 2, none⟩ (.bool F.b)).setCell ⟨q1, 3, none⟩ (.slice od F.ms.length cd)) = wu at *
      have a0 := blk_cell hst (k := 0) (u := .int .i64 F.k) rfl
      have a1 := blk_cell hst (k := 1) (u := .int .i64 F.p) rfl
      have a2 := blk_cell hst (k := 2) (u := .bool F.b) rfl
      have a3 := blk_cell hst (k := 3) (u := .slice od F.ms.length cd) rfl
      try simp only [Exit.inBlock, Exit.then]
      refine bodyPost_ret (by simp [results, Try.results17, go_sem, a0, a1, a2, a3]; try rfl) rfl ?_
      have hO := HO5.out.keep mvE_good hsk (fun _ h => h.elim) (fun b hb => by obtain ⟨_, h, _⟩ := HO5.out; have := ownsRow_lt h b hb; have := HQS.out; omega)
      exact ⟨_, rfl, hO.below (by have := HQS.out; have := HQE.out; omega), HK5.out.step hsk (fun j h1 h2 => .inl (by have := HQS.out; have := HQE.out; omega))⟩
end Go.Proofs.Ytgokhagbknlfaaa
