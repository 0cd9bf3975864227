/-
  The document's answer for package schema: Field, kind.
-/
import Derived.Test.YtdgeehcfdnokmaaDoorProg
import Derived.Test.YtdgeehcfdnokmaaDoorSc
import Derived.WalkKit
import Derived.Handy
namespace Go.Proofs.YtdgeehcfdnokmaaDoor
open Go.RowKit

theorem info_mv : (Tryd.prog.info? 39).map (fun i => (i.zero, i.size, i.bytes)) = some (some (.agg #[.int .i64 0, .int .i64 0, .int .i64 0, .int .i64 0]), 4, 32) := by kernel_rfl

/-- What Field answers. -/
def fieldV (x : Fl) (mv : Value) : Value := .agg #[.int .i64 x.k, .int .i64 x.p, .bool x.b, mv]

set_option maxHeartbeats 1000000 in
theorem refSField_none {S : Nat → Prop} (d : Dc) (t f : Int) (w : World) (tv pv : Value) (hd : RdD w S tv pv d) (h : Sc.field d t f = none) :
    Calls Tryd.prog 12 #[.agg #[tv, pv], .int .i64 t, .int .i64 f] w fun r w' => r = .returned (.tuple #[fieldV Sc.z (.slice none 0 0), .bool false]) ∧ Kp 0 0 w w' := by
  have hcase : t < 0 ∨ (d.ts.length : Int) ≤ t ∨ f < 0 ∨ (∃ (n : Nat) (T : List Fl), t = n ∧ d.ts[n]? = some T ∧ (T.length : Int) ≤ f) := by
    by_cases h1 : t < 0
    · exact .inl h1
    by_cases h2 : (d.ts.length : Int) ≤ t
    · exact .inr (.inl h2)
    by_cases h3 : f < 0
    · exact .inr (.inr (.inl h3))
    refine .inr (.inr (.inr ⟨t.toNat, d.ts[t.toNat]'(by omega), by omega, List.getElem?_eq_getElem _, ?_⟩))
    apply Int.not_lt.1
    intro h4
    have := Sc.field_some (d := d) (t := t.toNat) (f := f.toNat) (T := d.ts[t.toNat]'(by omega)) (x := (d.ts[t.toNat]'(by omega))[f.toNat]'(by omega)) (List.getElem?_eq_getElem _) (List.getElem?_eq_getElem _)
    rw [Int.toNat_of_nonneg (by omega), Int.toNat_of_nonneg (by omega), h] at this
    cases this
  obtain ⟨to, tc, rfl, ht1, ht2, htc⟩ := hd.t.open
  obtain ⟨po, pc, rfl, hp1, hp2, _⟩ := hd.p.open
  have HTC := Lib.hid htc
  clear hd htc h
  rcases hcase with h | h | h | ⟨n, T, rfl, hT, h⟩
  · go_enter Tryd.func12, Tryd.ntmps12
    go_wp2_with fail
    try simp only [Exit.inBlock, Exit.then]
    refine bodyPost_ret (by simp [results, Tryd.results12, go_sem]; try rfl) rfl ?_
    exact ⟨rfl, ((Kp.refl _ _ _).alloc _).alloc _⟩
  · have h0 : 0 ≤ t := by omega
    go_enter Tryd.func12, Tryd.ntmps12
    go_wp2_with fail
    try simp only [Exit.inBlock, Exit.then]
    refine bodyPost_ret (by simp [results, Tryd.results12, go_sem]; try rfl) rfl ?_
    exact ⟨rfl, ((Kp.refl _ _ _).alloc _).alloc _⟩
  · by_cases h1 : t < 0
    · go_enter Tryd.func12, Tryd.ntmps12
      go_wp2_with fail
      try simp only [Exit.inBlock, Exit.then]
      refine bodyPost_ret (by simp [results, Tryd.results12, go_sem]; try rfl) rfl ?_
      exact ⟨rfl, ((Kp.refl _ _ _).alloc _).alloc _⟩
    · have h1 : 0 ≤ t := by omega
      by_cases h2 : (d.ts.length : Int) ≤ t
      · go_enter Tryd.func12, Tryd.ntmps12
        go_wp2_with fail
        try simp only [Exit.inBlock, Exit.then]
        refine bodyPost_ret (by simp [results, Tryd.results12, go_sem]; try rfl) rfl ?_
        exact ⟨rfl, ((Kp.refl _ _ _).alloc _).alloc _⟩
      · have h2 : t < (d.ts.length : Int) := by omega
        go_enter Tryd.func12, Tryd.ntmps12
        go_wp2_with fail
        try simp only [Exit.inBlock, Exit.then]
        refine bodyPost_ret (by simp [results, Tryd.results12, go_sem]; try rfl) rfl ?_
        exact ⟨rfl, ((Kp.refl _ _ _).alloc _).alloc _⟩
  · obtain ⟨b, o, fo, fc, rfl, hb, c1, hf1, hf2, hf⟩ := ty_at HTC.out hT
    have h1 := (List.getElem?_eq_some_iff.1 hT).1
    have t0 : (0 : Int) ≤ (n : Int) := Int.natCast_nonneg _
    have t1 : (n : Int) < (d.ts.length : Int) := by omega
    have f0 : 0 ≤ f := by omega
    have c1 := ((Kp.refl 0 0 w).alloc (.cells #[Value.slice (some ⟨b, o, none⟩) d.ts.length tc, .slice po d.ps.length pc] 25)).alloc (.cells #[Value.int .i64 0, .int .i64 0, .bool false, .slice none 0 0] 33) |>.cell c1 (.inr (Nat.zero_le _))
    clear hT hf h1
    go_enter Tryd.func12, Tryd.ntmps12
    go_wp2_with fail
    try simp only [Exit.inBlock, Exit.then]
    refine bodyPost_ret (by simp [results, Tryd.results12, go_sem]; try rfl) rfl ?_
    exact ⟨rfl, ((Kp.refl _ _ _).alloc _).alloc _⟩

set_option maxHeartbeats 1000000 in
theorem refSField_some {S : Nat → Prop} (d : Dc) (t f : Nat) (T : List Fl) (F : Fl) (w : World) (tv pv : Value) (hd : RdD w S tv pv d) (hT : d.ts[t]? = some T) (hF : T[f]? = some F) (hm : F.ms.length ≤ 1000000) :
    Calls Tryd.prog 12 #[.agg #[tv, pv], .int .i64 t, .int .i64 f] w fun r w' => ∃ mv, r = .returned (.tuple #[fieldV F mv, .bool true]) ∧ OwnS mvE 39 4 w.heap.size w' (fun _ => False) mv F.ms ∧ Kp 0 0 w w' := by
  obtain ⟨to, tc, rfl, ht1, ht2, htc⟩ := hd.t.open
  obtain ⟨po, pc, rfl, hp1, hp2, _⟩ := hd.p.open
  obtain ⟨b, o, fo, fc, rfl, hb, c1, hf1, hf2, hf⟩ := ty_at htc hT
  obtain ⟨b2, o2, mo, mc, rfl, hb2, g0, g1, g2, g3, hm1, hm2, hms⟩ := fl_at hf.cl hF
  have h1 := (List.getElem?_eq_some_iff.1 hT).1
  have h2 := (List.getElem?_eq_some_iff.1 hF).1
  have t0 : (0 : Int) ≤ (t : Int) := Int.natCast_nonneg _
  have t1 : (t : Int) < (d.ts.length : Int) := by omega
  have f0 : (0 : Int) ≤ (f : Int) := Int.natCast_nonneg _
  have f1 : (f : Int) < (T.length : Int) := by omega
  have HMS := Lib.hid hms
  have hk2 := ((Kp.refl 0 0 w).alloc (.cells #[Value.slice (some ⟨b, o, none⟩) d.ts.length tc, .slice po d.ps.length pc] 25)).alloc (.cells #[Value.int .i64 0, .int .i64 0, .bool false, .slice none 0 0] 33)
  have d1 := hk2.cell c1 (.inr (Nat.zero_le _))
  have e0 := hk2.cell g0 (.inr (Nat.zero_le _))
  have e1 := hk2.cell g1 (.inr (Nat.zero_le _))
  have e2 := hk2.cell g2 (.inr (Nat.zero_le _))
  have e3 := hk2.cell g3 (.inr (Nat.zero_le _))
  have HK2 := Lib.hid hk2
  clear hd htc hf hms hT hF hk2 c1 g0 g1 g2 g3
  go_enter Tryd.func12, Tryd.ntmps12
  go_wp2_with fail
  have HK3 := Lib.hid (HK2.out.alloc (.cells #[Value.int .i64 F.k, .int .i64 F.p, .bool F.b, .slice mo F.ms.length mc] 33))
  have HQ0 := Lib.hid (blk_old (blk_two w (.cells #[Value.slice (some ⟨b, o, none⟩) d.ts.length tc, .slice po d.ps.length pc] 25) (.cells #[Value.int .i64 0, .int .i64 0, .bool false, .slice none 0 0] 33)) (.cells #[Value.int .i64 F.k, .int .i64 F.p, .bool F.b, .slice mo F.ms.length mc] 33))
  have HQ1 := Lib.hid (blk_three w (.cells #[Value.slice (some ⟨b, o, none⟩) d.ts.length tc, .slice po d.ps.length pc] 25) (.cells #[Value.int .i64 0, .int .i64 0, .bool false, .slice none 0 0] 33) (.cells #[Value.int .i64 F.k, .int .i64 F.p, .bool F.b, .slice mo F.ms.length mc] 33))
  clear d1 e0 e1 e2 e3 HK2
  generalize ((w.alloc (.cells #[Value.slice (some ⟨b, o, none⟩) d.ts.length tc, .slice po d.ps.length pc] 25)).alloc (.cells #[Value.int .i64 0, .int .i64 0, .bool false, .slice none 0 0] 33)).alloc (.cells #[Value.int .i64 F.k, .int .i64 F.p, .bool F.b, .slice mo F.ms.length mc] 33) = w3 at HQ0 HQ1 HK3 ⊢
  have HM3 := Lib.hid ((HMS.out.keep0 mvE_good HK3.out).cl)
  have HQS : Hid (w.heap.size ≤ w.heap.size + 1 ∧ w.heap.size ≤ w.heap.size + 1 + 1 ∧ w.heap.size + 1 < w3.heap.size ∧ w.heap.size + 1 + 1 < w3.heap.size ∧ w.heap.size + 1 ≠ w.heap.size + 1 + 1) := ⟨by omega, by omega, heap_lt HQ0.out, heap_lt HQ1.out, by omega⟩
  generalize w.heap.size + 1 + 1 = q2 at HQ1 HQS ⊢
  generalize w.heap.size + 1 = q1 at HQ0 HQS ⊢
  obtain ⟨i0, hi, hz0, hz1, hz2⟩ := info_parts info_mv
  generalize hL : F.ms.length = L at *
  have HL := Lib.hid hL
  clear hL HMS
  have y1 : decide ((t : Int) < 0) = false := decide_eq_false (by omega)
  have y2 : decide (d.ts.length ≤ t) = false := decide_eq_false (by omega)
  have y3 : decide ((f : Int) < 0) = false := decide_eq_false (by omega)
  have y4 : decide (T.length ≤ f) = false := decide_eq_false (by omega)
  simp only [y1, y2, y3, y4, Bool.or_false]
  clear y1 y2 y3 y4
  go_loopw [9, 10] (fun v' i wr => ∃ k : Nat, k ≤ L ∧ i = .int .i64 k ∧ OwnS mvE 39 4 w3.heap.size wr (fun _ => False) v' (F.ms.take k) ∧ Kp 0 0 w3 wr) (fun _ i _ => L - (intOf i).toNat)
  case atStart => exact ⟨0, Nat.zero_le _, rfl, OwnS.nil _ _ _ _ _ _, Kp.refl _ _ _⟩
  case round =>
    obtain ⟨k, hk, rfl, hown, hkp⟩ := hrel
    have q23 := blk_cell (hkp.heap HQ1.out (.inr (Nat.zero_le _))) (k := 3) (u := .slice mo L mc) rfl
    have HK4 := Lib.hid hkp
    by_cases hlt : k < L
    · obtain ⟨m, hmk⟩ : ∃ m, F.ms[k]? = some m := ⟨_, List.getElem?_eq_getElem (by rw [HL.out]; exact hlt)⟩
      obtain ⟨b3, o3, rfl, hb3, c0, c1, c2, c3⟩ := mv_at HM3.out hmk
      have c0 := hkp.cell c0 (.inr (Nat.zero_le _))
      have c1 := hkp.cell c1 (.inr (Nat.zero_le _))
      have c2 := hkp.cell c2 (.inr (Nat.zero_le _))
      have c3 := hkp.cell c3 (.inr (Nat.zero_le _))
      have HTS := Lib.hid (take_snoc hmk)
      have hsz := hkp.size
      obtain ⟨xs, hrow, hsp, _⟩ := hown.open (n := k) (by rw [List.length_take, HL.out]; omega)
      have HSP := Lib.hid hsp
      have hlk : Hid ((F.ms.take k).length = k) := by show _ = _; rw [List.length_take, HL.out]; omega
      clear hown hsp hmk
      go_wp2_with (at_builtin; refine wpList_append_own _ rfl _ _ 31 rfl w3.heap.size 39 i0 (.agg #[.int .i64 0, .int .i64 0, .int .i64 0, .int .i64 0]) 4 32 Tryd.underlying31 hi hz0 hz1 hz2 rfl (by decide) _ _ _ rfl (hrow.alloc _) ⟨wr.heap.size, 0, none⟩ 1 1 [.int .i64 m.f, .int .i64 m.t, .int .i64 m.n, .int .i64 m.l] rfl rfl (cell_lits _ _ _) (by simp [Value.oneCell']) ?c3 ?c4 ?c5 ?_)
      case c3 => unfold maxLen; omega
      case c4 => omega
      case c5 => simp; omega
      intro v' w5 hown' hg _
      have HK5 : Hid (Kp 0 0 w3 w5) := (HK4.out.alloc _).grown hg fun j hj => .inl ((ownsRow_lt hrow j hj).1)
      have HO5 := Lib.hid (OwnS.flat HSP.out hown' hlk.out rfl (fun h => h) rfl)
      clear hown' hg hrow
      go_wp2_with fail
      go_roundw
      case rel =>
        refine ⟨k + 1, by omega, by go_num, ?_, HK5.out⟩
        rw [HTS.out]
        exact HO5.out
      case measure => simp [intOf]; omega
    · obtain rfl : k = L := by omega
      have hq1 := hkp.heap HQ0.out (.inr (Nat.zero_le _))
      have hq2 := hkp.heap HQ1.out (.inr (Nat.zero_le _))
      have HO4 : Hid (OwnS mvE 39 4 w3.heap.size wr (fun _ => False) u9 F.ms) := by
        show OwnS _ _ _ _ _ _ _ _
        rw [← HL.out, List.take_length] at hown
        exact hown
      clear hown
      obtain ⟨od, cd, rfl, _, _, _⟩ := (HO4.out.rd (T := fun _ => True) mvE_good (fun _ _ _ => trivial) (fun _ _ => trivial)).open
      have hq3 := blk_set hq2 3 (.slice od F.ms.length cd)
      have hks := kp_set wr q2 3 (.slice od F.ms.length cd)
      have hq4 := hks.heap hq1 (by have := HQS.out; omega)
      have HO5 : Hid (OwnS mvE 39 4 w3.heap.size (wr.setCell ⟨q2, 3, none⟩ (.slice od F.ms.length cd)) (fun _ => False) (.slice od F.ms.length cd) F.ms) := HO4.out.keep mvE_good hks (fun _ h => h.elim) (fun b hb => by have := HO4.out; obtain ⟨_, h, _⟩ := this; have := ownsRow_lt h b hb; have := HQS.out; omega)
      have HK5 : Hid (Kp 0 0 w (wr.setCell ⟨q2, 3, none⟩ (.slice od F.ms.length cd))) := (HK3.out.trans HK4.out).step hks (fun j h1 h2 => .inl (by have := HQS.out; omega))
      have a0 := blk_cell hq3 (k := 0) (u := .int .i64 F.k) rfl
      have a1 := blk_cell hq3 (k := 1) (u := .int .i64 F.p) rfl
      have a2 := blk_cell hq3 (k := 2) (u := .bool F.b) rfl
      have a3 := blk_cell hq3 (k := 3) (u := .slice od F.ms.length cd) rfl
      have b0 := blk_cell hq4 (k := 0) (u := .int .i64 0) rfl
      have b1 := blk_cell hq4 (k := 1) (u := .int .i64 0) rfl
      have b2 := blk_cell hq4 (k := 2) (u := .bool false) rfl
      have b3 := blk_cell hq4 (k := 3) (u := .slice none 0 0) rfl
      have z0 := blk_frozen hq1 0
      have z1 := blk_frozen hq1 1
      have z2 := blk_frozen hq1 2
      have z3 := blk_frozen hq1 3
      have z4 := blk_frozen hq2 3
      clear hq3 hks hq1 hq2 hkp
      go_wp2_with fail
      obtain ⟨hst, hsk⟩ := store_four hq4 rfl (.int .i64 F.k) (.int .i64 F.p) (.bool F.b) (.slice od F.ms.length cd)
      generalize (wr.setCell ⟨q2, 3, none⟩ (.slice od F.ms.length cd)) = wt at *
      generalize ((((wt.setCell ⟨q1, 0, none⟩ (.int .i64 F.k)).setCell ⟨q1, 1, none⟩ (.int .i64 F.p)).setCell ⟨q1, 2, none⟩ (.bool F.b)).setCell ⟨q1, 3, none⟩ (.slice od F.ms.length cd)) = wu at *
      have a0 := blk_cell hst (k := 0) (u := .int .i64 F.k) rfl
      have a1 := blk_cell hst (k := 1) (u := .int .i64 F.p) rfl
      have a2 := blk_cell hst (k := 2) (u := .bool F.b) rfl
      have a3 := blk_cell hst (k := 3) (u := .slice od F.ms.length cd) rfl
      try simp only [Exit.inBlock, Exit.then]
      refine bodyPost_ret (by simp [results, Tryd.results12, go_sem, a0, a1, a2, a3]; try rfl) rfl ?_
      have hO := HO5.out.keep mvE_good hsk (fun _ h => h.elim) (fun b hb => by obtain ⟨_, h, _⟩ := HO5.out; have := ownsRow_lt h b hb; have := HQS.out; omega)
      exact ⟨_, rfl, hO.below (by have := HQS.out; omega), HK5.out.step hsk (fun j h1 h2 => .inl (by have := HQS.out; omega))⟩
end Go.Proofs.YtdgeehcfdnokmaaDoor
