/-
  The landed schema: which field there is; a projection; Check.
-/
import Derived.Test.YtdgeehcfdnokmaaDoorScOk2
namespace Go.Proofs.YtdgeehcfdnokmaaDoor
open Go.RowKit

/-- There is no such field: how. -/
theorem field_none {d : Dc} {t f : Int} (h : Sc.field d t f = none) : t < 0 ∨ (d.ts.length : Int) ≤ t ∨ (∃ (n : Nat) (T : List Fl), t = n ∧ d.ts[n]? = some T ∧ (f < 0 ∨ (T.length : Int) ≤ f)) := by
  by_cases h1 : t < 0
  · exact .inl h1
  by_cases h2 : (d.ts.length : Int) ≤ t
  · exact .inr (.inl h2)
  refine .inr (.inr ⟨t.toNat, d.ts[t.toNat]'(by omega), by omega, List.getElem?_eq_getElem _, ?_⟩)
  by_cases h3 : f < 0
  · exact .inl h3
  refine .inr (Int.not_lt.1 fun h4 => ?_)
  have := Sc.field_some (d := d) (t := t.toNat) (f := f.toNat) (T := d.ts[t.toNat]'(by omega)) (x := (d.ts[t.toNat]'(by omega))[f.toNat]'(by omega)) (List.getElem?_eq_getElem _) (List.getElem?_eq_getElem _)
  rw [Int.toNat_of_nonneg (by omega), Int.toNat_of_nonneg (by omega), h] at this
  cases this

set_option maxRecDepth 100000 in
set_option maxHeartbeats 4000000 in
theorem find_none {S : Nat → Prop} (d : Dc) (t f : Int) (w : World) (tv pv : Value) (hd : RdD w S tv pv d) (h : Sc.field d t f = none) :
    Calls Tryd.prog 24 #[.agg #[tv, pv], .int .i64 t, .int .i64 f] w fun r w' => r = .returned (.tuple #[fieldV Sc.z (.slice none 0 0), .bool false]) ∧ Kp 0 0 w w' := by
  have hcase := field_none h
  obtain ⟨to, tc, rfl, ht1, ht2, htc⟩ := hd.t.open
  obtain ⟨po, pc, rfl, hp1, hp2, _⟩ := hd.p.open
  have HTC := Lib.hid htc
  have htl : d.ts.length ≤ 9223372036854775807 := by omega
  have HK : Hid (Kp 0 0 w ((w.alloc (.cells #[.slice to d.ts.length tc, .slice po d.ps.length pc] 25)).alloc (.cells #[.int .i64 0, .int .i64 0, .bool false, .slice none 0 0] 33))) := ((Kp.refl _ _ _).alloc _).alloc _
  have HQ := Lib.hid (blk_old (blk_one w (.cells #[.slice to d.ts.length tc, .slice po d.ps.length pc] 25)) (.cells #[.int .i64 0, .int .i64 0, .bool false, .slice none 0 0] 33))
  have HQ2 := Lib.hid (blk_two w (.cells #[.slice to d.ts.length tc, .slice po d.ps.length pc] 25) (.cells #[.int .i64 0, .int .i64 0, .bool false, .slice none 0 0] 33))
  clear hd htc h ht1 ht2 hp1 hp2
  go_enter Tryd.func24, Tryd.ntmps24
  go_upto_region 1 with fail
  generalize (w.alloc (.cells #[.slice to d.ts.length tc, .slice po d.ps.length pc] 25)).alloc (.cells #[.int .i64 0, .int .i64 0, .bool false, .slice none 0 0] 33) = w1 at HK HQ HQ2 ⊢
  have HLQ : Hid (w.heap.size ≤ w.heap.size + 1) := by show _ ≤ _; omega
  generalize hq2 : w.heap.size + 1 = q2 at HQ2 HLQ ⊢
  clear hq2
  have HTC1 := Lib.hid (HTC.out.keep0 tyE_good HK.out)
  have HKS : Hid (∀ W, Kp q2 (q2 + 1) w1 W → Kp 0 0 w W) := fun W hW => HK.out.step hW fun j h1 h2 => .inl (by have := HLQ.out; omega)
  clear HTC HLQ
  generalize w.heap.size = q1 at HQ ⊢
  have b0 := blk_cell HQ.out (k := 0) (u := .slice to d.ts.length tc) rfl
  have z0 := blk_frozen HQ2.out 0
  have z1 := blk_frozen HQ2.out 1
  have z2 := blk_frozen HQ2.out 2
  have z3 := blk_frozen HQ2.out 3
  have y0 := blk_cell HQ2.out (k := 0) (u := .int .i64 0) rfl
  have y1 := blk_cell HQ2.out (k := 1) (u := .int .i64 0) rfl
  have y2 := blk_cell HQ2.out (k := 2) (u := .bool false) rfl
  have y3 := blk_cell HQ2.out (k := 3) (u := .slice none 0 0) rfl
  have HST := Lib.hid (store_four HQ2.out rfl (.int .i64 0) (.int .i64 0) (.bool false) (.slice none 0 0))
  rcases hcase with h | h | ⟨n, T, rfl, hT, h⟩
  · have hb : decide (0 ≤ t ∧ t < (d.ts.length : Int)) = false := by simp; omega
    go_wp2_with (go_at_call 31; refine (below_any _ _ _).mono ?_; rintro r w2 ⟨rfl, rfl⟩; rw [hb])
    obtain ⟨hst, hsk⟩ := HST.out
    have HKF := HKS.out _ hsk
    clear HST HKS y0 y1 y2 y3
    generalize ((((w2.setCell ⟨q2, 0, none⟩ (.int .i64 0)).setCell ⟨q2, 1, none⟩ (.int .i64 0)).setCell ⟨q2, 2, none⟩ (.bool false)).setCell ⟨q2, 3, none⟩ (.slice none 0 0)) = wu at *
    have a0 := blk_cell hst (k := 0) (u := .int .i64 0) rfl
    have a1 := blk_cell hst (k := 1) (u := .int .i64 0) rfl
    have a2 := blk_cell hst (k := 2) (u := .bool false) rfl
    have a3 := blk_cell hst (k := 3) (u := .slice none 0 0) rfl
    try simp only [Exit.inBlock, Exit.then]
    refine bodyPost_ret (by simp [results, Tryd.results24, go_sem, a0, a1, a2, a3]; try rfl) rfl ?_
    exact ⟨rfl, HKF⟩
  · have hb : decide (0 ≤ t ∧ t < (d.ts.length : Int)) = false := by simp; omega
    go_wp2_with (go_at_call 31; refine (below_any _ _ _).mono ?_; rintro r w2 ⟨rfl, rfl⟩; rw [hb])
    obtain ⟨hst, hsk⟩ := HST.out
    have HKF := HKS.out _ hsk
    clear HST HKS y0 y1 y2 y3
    generalize ((((w2.setCell ⟨q2, 0, none⟩ (.int .i64 0)).setCell ⟨q2, 1, none⟩ (.int .i64 0)).setCell ⟨q2, 2, none⟩ (.bool false)).setCell ⟨q2, 3, none⟩ (.slice none 0 0)) = wu at *
    have a0 := blk_cell hst (k := 0) (u := .int .i64 0) rfl
    have a1 := blk_cell hst (k := 1) (u := .int .i64 0) rfl
    have a2 := blk_cell hst (k := 2) (u := .bool false) rfl
    have a3 := blk_cell hst (k := 3) (u := .slice none 0 0) rfl
    try simp only [Exit.inBlock, Exit.then]
    refine bodyPost_ret (by simp [results, Tryd.results24, go_sem, a0, a1, a2, a3]; try rfl) rfl ?_
    exact ⟨rfl, HKF⟩
  · have hn := (List.getElem?_eq_some_iff.1 hT).1
    obtain ⟨b, o, fo, fc, rfl, _, c1, hf1, hf2, _⟩ := ty_at HTC1.out hT
    have n0 : (0 : Int) ≤ (n : Int) := Int.natCast_nonneg _
    have n1 : (n : Int) < (d.ts.length : Int) := by omega
    have hTl : T.length ≤ 9223372036854775807 := by omega
    have hb : decide (0 ≤ (n : Int) ∧ (n : Int) < (d.ts.length : Int)) = true := by simp; omega
    have hb2 : decide (0 ≤ f ∧ f < (T.length : Int)) = false := by simp; omega
    clear hT hn
    go_wp2_with (go_at_call 31; refine (below_any _ _ _).mono ?_; rintro r w2 ⟨rfl, rfl⟩; first | rw [hb] | rw [hb2])
    obtain ⟨hst, hsk⟩ := HST.out
    have HKF := HKS.out _ hsk
    clear HST HKS y0 y1 y2 y3
    generalize ((((w2.setCell ⟨q2, 0, none⟩ (.int .i64 0)).setCell ⟨q2, 1, none⟩ (.int .i64 0)).setCell ⟨q2, 2, none⟩ (.bool false)).setCell ⟨q2, 3, none⟩ (.slice none 0 0)) = wu at *
    have a0 := blk_cell hst (k := 0) (u := .int .i64 0) rfl
    have a1 := blk_cell hst (k := 1) (u := .int .i64 0) rfl
    have a2 := blk_cell hst (k := 2) (u := .bool false) rfl
    have a3 := blk_cell hst (k := 3) (u := .slice none 0 0) rfl
    try simp only [Exit.inBlock, Exit.then]
    refine bodyPost_ret (by simp [results, Tryd.results24, go_sem, a0, a1, a2, a3]; try rfl) rfl ?_
    exact ⟨rfl, HKF⟩

set_option maxRecDepth 100000 in
set_option maxHeartbeats 4000000 in
theorem find_some {S : Nat → Prop} (d : Dc) (n m : Nat) (T : List Fl) (F : Fl) (w : World) (tv pv : Value) (hd : RdD w S tv pv d) (hT : d.ts[n]? = some T) (hF : T[m]? = some F) :
    Calls Tryd.prog 24 #[.agg #[tv, pv], .int .i64 n, .int .i64 m] w fun r w' => ∃ mo mc, r = .returned (.tuple #[fieldV F (.slice mo F.ms.length mc), .bool true]) ∧ RdS mvE 4 w' S (.slice mo F.ms.length mc) F.ms ∧ Kp 0 0 w w' := by
  obtain ⟨to, tc, rfl, ht1, ht2, htc⟩ := hd.t.open
  obtain ⟨po, pc, rfl, hp1, hp2, _⟩ := hd.p.open
  have htl : d.ts.length ≤ 9223372036854775807 := by omega
  have HK : Hid (Kp 0 0 w ((w.alloc (.cells #[.slice to d.ts.length tc, .slice po d.ps.length pc] 25)).alloc (.cells #[.int .i64 0, .int .i64 0, .bool false, .slice none 0 0] 33))) := ((Kp.refl _ _ _).alloc _).alloc _
  have HQ := Lib.hid (blk_old (blk_one w (.cells #[.slice to d.ts.length tc, .slice po d.ps.length pc] 25)) (.cells #[.int .i64 0, .int .i64 0, .bool false, .slice none 0 0] 33))
  have HQ2 := Lib.hid (blk_two w (.cells #[.slice to d.ts.length tc, .slice po d.ps.length pc] 25) (.cells #[.int .i64 0, .int .i64 0, .bool false, .slice none 0 0] 33))
  have hn := (List.getElem?_eq_some_iff.1 hT).1
  have hm := (List.getElem?_eq_some_iff.1 hF).1
  obtain ⟨b, o, fo, fc, rfl, _, c1, hf1, hf2, hfs⟩ := ty_at (htc.keep0 tyE_good HK.out) hT
  obtain ⟨b2, o2, mo, mc, rfl, _, g0, g1, g2, g3, hm1, hm2, hms⟩ := fl_at hfs.cl hF
  have n0 : (0 : Int) ≤ (n : Int) := Int.natCast_nonneg _
  have n1 : (n : Int) < (d.ts.length : Int) := by omega
  have m0 : (0 : Int) ≤ (m : Int) := Int.natCast_nonneg _
  have m1 : (m : Int) < (T.length : Int) := by omega
  have hTl : T.length ≤ 9223372036854775807 := by omega
  have hb : decide (0 ≤ (n : Int) ∧ (n : Int) < (d.ts.length : Int)) = true := by simp; omega
  have hb2 : decide (0 ≤ (m : Int) ∧ (m : Int) < (T.length : Int)) = true := by simp; omega
  have HMS : Hid (∀ W, Kp 0 0 w W → RdS mvE 4 W S (.slice mo F.ms.length mc) F.ms) := by
    intro W hW
    obtain ⟨bb, oo, foo, fcc, he, _, c1', _, _, hfs'⟩ := ty_at htc hT
    cases he
    have := HK.out.cell c1' (.inr (Nat.zero_le _))
    rw [c1] at this
    cases this
    obtain ⟨b2', o2', mo', mc', he, _, _, _, _, g3', _, _, hms'⟩ := fl_at hfs'.cl hF
    cases he
    have := HK.out.cell g3' (.inr (Nat.zero_le _))
    rw [g3] at this
    cases this
    exact hms'.keep0 mvE_good hW
  clear hd htc hfs hT hF hms hn hm ht1 ht2 hp1 hp2
  go_enter Tryd.func24, Tryd.ntmps24
  go_upto_region 1 with fail
  generalize (w.alloc (.cells #[.slice (some ⟨b, o, none⟩) d.ts.length tc, .slice po d.ps.length pc] 25)).alloc (.cells #[.int .i64 0, .int .i64 0, .bool false, .slice none 0 0] 33) = w1 at *
  have HLQ : Hid (w.heap.size ≤ w.heap.size + 1) := by show _ ≤ _; omega
  generalize hq2 : w.heap.size + 1 = q2 at *
  clear hq2
  have HKS : Hid (∀ W, Kp q2 (q2 + 1) w1 W → Kp 0 0 w W) := fun W hW => HK.out.step hW fun j h1 h2 => .inl (by have := HLQ.out; omega)
  clear HLQ
  generalize w.heap.size = q1 at HQ ⊢
  have b0 := blk_cell HQ.out (k := 0) (u := .slice (some ⟨b, o, none⟩) d.ts.length tc) rfl
  have z0 := blk_frozen HQ2.out 0
  have z1 := blk_frozen HQ2.out 1
  have z2 := blk_frozen HQ2.out 2
  have z3 := blk_frozen HQ2.out 3
  have y0 := blk_cell HQ2.out (k := 0) (u := .int .i64 0) rfl
  have y1 := blk_cell HQ2.out (k := 1) (u := .int .i64 0) rfl
  have y2 := blk_cell HQ2.out (k := 2) (u := .bool false) rfl
  have y3 := blk_cell HQ2.out (k := 3) (u := .slice none 0 0) rfl
  have HST := Lib.hid (store_four HQ2.out rfl (.int .i64 F.k) (.int .i64 F.p) (.bool F.b) (.slice mo F.ms.length mc))
  go_wp2_with (go_at_call 31; refine (below_any _ _ _).mono ?_; rintro r w2 ⟨rfl, rfl⟩; first | rw [hb] | rw [hb2])
  obtain ⟨hst, hsk⟩ := HST.out
  have HKF := HKS.out _ hsk
  clear HST HKS y0 y1 y2 y3
  generalize ((((w2.setCell ⟨q2, 0, none⟩ (.int .i64 F.k)).setCell ⟨q2, 1, none⟩ (.int .i64 F.p)).setCell ⟨q2, 2, none⟩ (.bool F.b)).setCell ⟨q2, 3, none⟩ (.slice mo F.ms.length mc)) = wu at *
  have a0 := blk_cell hst (k := 0) (u := .int .i64 F.k) rfl
  have a1 := blk_cell hst (k := 1) (u := .int .i64 F.p) rfl
  have a2 := blk_cell hst (k := 2) (u := .bool F.b) rfl
  have a3 := blk_cell hst (k := 3) (u := .slice mo F.ms.length mc) rfl
  try simp only [Exit.inBlock, Exit.then]
  refine bodyPost_ret (by simp [results, Tryd.results24, go_sem, a0, a1, a2, a3]; try rfl) rfl ?_
  exact ⟨mo, mc, rfl, HMS.out _ HKF, HKF⟩

end Go.Proofs.YtdgeehcfdnokmaaDoor
