/-
  What the laws ask of package schema's Check, Field and Fits; and, where they keep it, that the chapter's shop comes out right.
-/
import Derived.Test.YtdgeehcfdnokmaaDoorScShop
import Derived.Deep.Cut
namespace Go.Proofs.YtdgeehcfdnokmaaDoor
open Go.RowKit

/-- What the package's own tables hold stays while nothing but new blocks comes. -/
def SKeeps (P : World → Prop) : Prop := ∀ w w', P w → Kp 0 0 w w' → P w'

/-- Check keeps the document. -/
def SCheckOk (P : World → Prop) : Prop := ∀ (S : Nat → Prop) (d : Dc) (w : World) (tv pv : Value), RdD w S tv pv d → Sc.Fits d → Sc.Short d → P w →
  Calls Tryd.prog 10 #[.agg #[tv, pv]] w fun r w' => r = .returned (.int .i64 (Sc.check d)) ∧ Kp 0 0 w w'

/-- Field keeps the document. -/
def SFieldOk (P : World → Prop) : Prop := ∀ (S : Nat → Prop) (d : Dc) (t f : Int) (w : World) (tv pv : Value), RdD w S tv pv d → Sc.Fits d → Sc.Short d → Sc.I64 t → Sc.I64 f → P w →
  Calls Tryd.prog 11 #[.agg #[tv, pv], .int .i64 t, .int .i64 f] w fun r w' => ∃ mv, r = .returned (.tuple #[fieldV ((Sc.field d t f).getD Sc.z) mv, .bool (Sc.field d t f).isSome]) ∧ OwnS mvE 39 4 w.heap.size w' (fun _ => False) mv ((Sc.field d t f).getD Sc.z).ms ∧ Kp 0 0 w w'

/-- Fits keeps the document. -/
def SFitsOk (P : World → Prop) : Prop := ∀ (S : Nat → Prop) (d : Dc) (t f op arg : Int) (w : World) (tv pv : Value), RdD w S tv pv d → Sc.Fits d → Sc.Short d → Sc.I64 t → Sc.I64 f → Sc.I64 op → Sc.I64 arg → P w →
  Calls Tryd.prog 15 #[.agg #[tv, pv], .int .i64 t, .int .i64 f, .int .i64 op, .int .i64 arg] w fun r w' => r = .returned (.int .i64 (Sc.fits d t f op arg)) ∧ Kp 0 0 w w'

namespace Shp
/-- All numbers of a shop are ints. -/
def Ok (s : Shp) : Prop := Sc.Fits s.dc
theorem std_ok : Sc.Fits std.dc := by
  refine ⟨fun t ht f hf => ?_, fun p hp => ?_⟩
  · simp [dc, fs, ms, std] at ht
    subst ht
    simp at hf
    rcases hf with rfl | rfl | rfl | rfl | rfl | rfl <;> simp [Sc.FitsF, Sc.FitsM, Sc.I64]
  · simp [dc, ps, std] at hp
    rcases hp with rfl | rfl | rfl <;> simp [Sc.FitsP, Sc.I64]
def bad : Shp := { std with p0 := 2 }
def lost : Shp := { std with m0 := ⟨0, 1, 1, 2⟩ }
theorem bad_ok : Sc.Fits bad.dc := by
  refine ⟨fun t ht f hf => ?_, fun p hp => ?_⟩
  · simp [dc, fs, ms, bad, std] at ht
    subst ht
    simp at hf
    rcases hf with rfl | rfl | rfl | rfl | rfl | rfl <;> simp [Sc.FitsF, Sc.FitsM, Sc.I64]
  · simp [dc, ps, bad, std] at hp
    rcases hp with rfl | rfl | rfl <;> simp [Sc.FitsP, Sc.I64]
theorem lost_ok : Sc.Fits lost.dc := by
  refine ⟨fun t ht f hf => ?_, fun p hp => ?_⟩
  · simp [dc, fs, ms, lost, std] at ht
    subst ht
    simp at hf
    rcases hf with rfl | rfl | rfl | rfl | rfl | rfl <;> simp [Sc.FitsF, Sc.FitsM, Sc.I64]
  · simp [dc, ps, lost, std] at hp
    rcases hp with rfl | rfl | rfl <;> simp [Sc.FitsP, Sc.I64]
theorem short (s : Shp) : Sc.Short s.dc := by
  refine ⟨by simp [dc], by simp [dc, ps], fun t ht => ?_⟩
  simp [dc] at ht
  subst ht
  refine ⟨by simp [fs], fun f hf => ?_⟩
  simp [fs] at hf
  rcases hf with rfl | rfl | rfl | rfl | rfl | rfl <;> simp [ms]
end Shp

theorem none_fits : Sc.Fits ⟨[], []⟩ := ⟨fun t ht => (by cases ht), fun p hp => (by cases hp)⟩
theorem none_short : Sc.Short ⟨[], []⟩ := ⟨by simp, by simp, fun t ht => by cases ht⟩
theorem none_rd (w : World) (S : Nat → Prop) : RdD w S (.slice none 0 0) (.slice none 0 0) ⟨[], []⟩ := ⟨RdS.nil _ _ _ _, RdS.nil _ _ _ _⟩

theorem shop_check : Sc.check Shp.std.dc = 0 := by decide
theorem bad_check : Sc.check Shp.bad.dc = 1 := by decide
theorem lost_check : Sc.check Shp.lost.dc = 8 := by decide
theorem none_check : Sc.check ⟨[], []⟩ = 3 := by decide
theorem shop_field : Sc.field Shp.std.dc 0 3 = some ⟨4, 2, false, Shp.std.ms⟩ := by decide
theorem shop_fits1 : Sc.fits Shp.std.dc 0 0 1 0 = 1 := by decide
theorem shop_fits2 : Sc.fits Shp.std.dc 0 0 2 1 = 2 := by decide

/-- A shop that a call made, read. -/
theorem ShopAt.all {w : World} {gm gf gp gt : Nat} {s : Shp} (h : ShopAt w gm gf gp gt s) : RdD w (fun _ => True) (.slice (some ⟨gt, 0, none⟩) 1 1) (.slice (some ⟨gp, 0, none⟩) 3 3) s.dc := h.rd trivial trivial trivial trivial

set_option maxRecDepth 100000 in
set_option maxHeartbeats 4000000 in
theorem works_any {P : World → Prop} (HP : SKeeps P) (HC : SCheckOk P) (HF : SFieldOk P) (HX : SFitsOk P) (w : World) (hp : P w) :
    Calls Tryd.prog 8 #[] w fun r w' => r = .returned (.bool true) ∧ Kp 0 0 w w' := by
  have HPW : Hid (∀ W, Kp 0 0 w W → P W) := fun W hW => HP w W hp hW
  clear hp
  go_enter Tryd.func8, Tryd.ntmps8
  go_wp2_with fail
  refine (shop_any w).mono ?_
  rintro r w1 ⟨gm, gf, gp, gt, rfl, hs, hg, hk⟩
  go_wp2_with fail
  have HK1 : Hid (Kp 0 0 w (w1.alloc (.cells #[.slice (some ⟨gt, 0, none⟩) 1 1, .slice (some ⟨gp, 0, none⟩) 3 3] 25))) := hk.alloc _
  have HS1 : Hid (ShopAt (w1.alloc (.cells #[.slice (some ⟨gt, 0, none⟩) 1 1, .slice (some ⟨gp, 0, none⟩) 3 3] 25)) gm gf gp gt Shp.std) := hs.keep0 ((Kp.refl _ _ _).alloc _)
  have HB1 := Lib.hid (blk_one w1 (.cells #[.slice (some ⟨gt, 0, none⟩) 1 1, .slice (some ⟨gp, 0, none⟩) 3 3] 25))
  clear hs hk hg
  generalize w1.alloc (.cells #[.slice (some ⟨gt, 0, none⟩) 1 1, .slice (some ⟨gp, 0, none⟩) 3 3] 25) = w2 at HK1 HS1 HB1 ⊢
  generalize w1.heap.size = pd at HB1 ⊢
  refine (HF _ Shp.std.dc 0 3 w2 _ _ HS1.out.all Shp.std_ok (Shp.short _) ⟨by decide, by decide⟩ ⟨by decide, by decide⟩ (HPW.out _ HK1.out)).mono ?_
  rw [shop_field]
  rintro r w3 ⟨mv, rfl, hmv, hk⟩
  simp only [Option.getD_some, Option.isSome_some] at hmv ⊢
  unfold fieldV
  obtain ⟨mo, mc, rfl, _, _, _⟩ := (hmv.rd (T := fun _ => True) mvE_good (fun _ _ h => False.elim h) (fun _ _ => trivial)).open
  have hl3 : Shp.std.ms.length = 3 := rfl
  rw [hl3]
  clear hmv
  dsimp only
  go_wp2_with fail
  have HK3 : Hid (Kp 0 0 w2 (w3.alloc (.cells #[.int .i64 4, .int .i64 2, .bool false, .slice mo 3 mc] 33))) := hk.alloc _
  have HF3 := Lib.hid (blk_one w3 (.cells #[.int .i64 4, .int .i64 2, .bool false, .slice mo 3 mc] 33))
  clear hk hl3
  generalize w3.alloc (.cells #[.int .i64 4, .int .i64 2, .bool false, .slice mo 3 mc] 33) = w4 at HK3 HF3 ⊢
  generalize w3.heap.size = pf at HF3 ⊢
  refine (shop_any w4).mono ?_
  rintro r w5 ⟨bm, bf, bp, bt, rfl, hs, hg, hk⟩
  have HK5 : Hid (Kp 0 0 w4 (w5.alloc (.cells #[.slice (some ⟨bt, 0, none⟩) 1 1, .slice (some ⟨bp, 0, none⟩) 3 3] 25))) := hk.alloc _
  have hs5 : ShopAt (w5.alloc (.cells #[.slice (some ⟨bt, 0, none⟩) 1 1, .slice (some ⟨bp, 0, none⟩) 3 3] 25)) bm bf bp bt Shp.std := hs.keep0 ((Kp.refl _ _ _).alloc _)
  have HB5 := Lib.hid (blk_one w5 (.cells #[.slice (some ⟨bt, 0, none⟩) 1 1, .slice (some ⟨bp, 0, none⟩) 3 3] 25))
  have ct := blk_cell hs5.t (k := 0) (u := .slice (some ⟨bf, 0, none⟩) 6 6) rfl
  have cf := blk_cell hs5.f (k := 1) (u := .int .i64 1) rfl
  have ff := blk_frozen hs5.f 1
  have HG := Lib.hid hg
  have HSB := Lib.hid (hs5.setF (s' := Shp.bad) (k := 1) (u := .int .i64 2) rfl rfl rfl)
  have HKB : Hid (Kp 0 0 w4 ((w5.alloc (.cells #[.slice (some ⟨bt, 0, none⟩) 1 1, .slice (some ⟨bp, 0, none⟩) 3 3] 25)).setCell ⟨bf, 1, none⟩ (.int .i64 2))) := HK5.out.step (kp_set _ _ _ _) (fun j h1 h2 => .inl (by have := HG.out; omega))
  have HBB := Lib.hid ((kp_set _ bf 1 (.int .i64 2)).heap HB5.out (by
    by_cases h : w5.heap.size = bf
    · exfalso
      have h1 := hs5.f
      rw [← h, HB5.out] at h1
      cases h1
    · omega))
  clear hs hg hk
  go_wp2_with fail
  clear ct cf ff hs5 HK5 HB5
  generalize (w5.alloc (.cells #[.slice (some ⟨bt, 0, none⟩) 1 1, .slice (some ⟨bp, 0, none⟩) 3 3] 25)).setCell ⟨bf, 1, none⟩ (.int .i64 2) = w6 at HSB HKB HBB ⊢
  generalize w5.heap.size = pb at HBB ⊢
  refine (shop_any w6).mono ?_
  rintro r w7 ⟨lm, lf, lp, lt, rfl, hs, hg, hk⟩
  have HK7 : Hid (Kp 0 0 w6 (w7.alloc (.cells #[.slice (some ⟨lt, 0, none⟩) 1 1, .slice (some ⟨lp, 0, none⟩) 3 3] 25))) := hk.alloc _
  have hs7 : ShopAt (w7.alloc (.cells #[.slice (some ⟨lt, 0, none⟩) 1 1, .slice (some ⟨lp, 0, none⟩) 3 3] 25)) lm lf lp lt Shp.std := hs.keep0 ((Kp.refl _ _ _).alloc _)
  have HB7 := Lib.hid (blk_one w7 (.cells #[.slice (some ⟨lt, 0, none⟩) 1 1, .slice (some ⟨lp, 0, none⟩) 3 3] 25))
  have ct := blk_cell hs7.t (k := 0) (u := .slice (some ⟨lf, 0, none⟩) 6 6) rfl
  have cf := blk_cell hs7.f (k := 15) (u := .slice (some ⟨lm, 0, none⟩) 3 3) rfl
  have cm := blk_cell hs7.m (k := 2) (u := .int .i64 0) rfl
  have ff := blk_frozen hs7.m 2
  have HG2 := Lib.hid hg
  have HSL := Lib.hid (hs7.setM (s' := Shp.lost) (k := 2) (u := .int .i64 1) rfl rfl rfl)
  have HKL : Hid (Kp 0 0 w6 ((w7.alloc (.cells #[.slice (some ⟨lt, 0, none⟩) 1 1, .slice (some ⟨lp, 0, none⟩) 3 3] 25)).setCell ⟨lm, 2, none⟩ (.int .i64 1))) := HK7.out.step (kp_set _ _ _ _) (fun j h1 h2 => .inl (by have := HG2.out; omega))
  have HBL := Lib.hid ((kp_set _ lm 2 (.int .i64 1)).heap HB7.out (by
    by_cases h : w7.heap.size = lm
    · exfalso
      have h1 := hs7.m
      rw [← h, HB7.out] at h1
      cases h1
    · omega))
  clear hs hg hk
  go_upto_region 7 with fail
  clear ct cf cm ff hs7 HK7 HB7
  generalize (w7.alloc (.cells #[.slice (some ⟨lt, 0, none⟩) 1 1, .slice (some ⟨lp, 0, none⟩) 3 3] 25)).setCell ⟨lm, 2, none⟩ (.int .i64 1) = w8 at HSL HKL HBL ⊢
  generalize w7.heap.size = pl at HBL ⊢
  have HKA : Hid (Kp 0 0 w w8) := ((HK1.out.trans HK3.out).trans HKB.out).trans HKL.out
  have HSD : Hid (ShopAt w8 gm gf gp gt Shp.std) := ((HS1.out.keep0 HK3.out).keep0 HKB.out).keep0 HKL.out
  have HSB8 := Lib.hid (HSB.out.keep0 HKL.out)
  have HD8 := Lib.hid (HKL.out.heap (HKB.out.heap (HK3.out.heap HB1.out (.inr (Nat.zero_le _))) (.inr (Nat.zero_le _))) (.inr (Nat.zero_le _)))
  have HF8 := Lib.hid (HKL.out.heap (HKB.out.heap HF3.out (.inr (Nat.zero_le _))) (.inr (Nat.zero_le _)))
  have HB8 := Lib.hid (HKL.out.heap HBB.out (.inr (Nat.zero_le _)))
  clear HK1 HS1 HB1 HK3 HF3 HSB HKB HBB HKL
  have HC1 : Hid (∀ W, Kp 0 0 w8 W → Calls Tryd.prog 10 #[.agg #[.slice (some ⟨gt, 0, none⟩) 1 1, .slice (some ⟨gp, 0, none⟩) 3 3]] W fun r w' => r = .returned (.int .i64 0) ∧ Kp 0 0 w8 w') := fun W hW => by
    have h := HC _ Shp.std.dc W _ _ (HSD.out.keep0 hW).all Shp.std_ok (Shp.short _) (HPW.out _ (HKA.out.trans hW))
    rw [shop_check] at h
    exact h.mono fun r w' h => ⟨h.1, hW.trans h.2⟩
  have HC2 : Hid (∀ W, Kp 0 0 w8 W → Calls Tryd.prog 10 #[.agg #[.slice none 0 0, .slice none 0 0]] W fun r w' => r = .returned (.int .i64 3) ∧ Kp 0 0 w8 w') := fun W hW => by
    have h := HC (fun _ => True) ⟨[], []⟩ W _ _ (none_rd _ _) none_fits none_short (HPW.out _ (HKA.out.trans hW))
    rw [none_check] at h
    exact h.mono fun r w' h => ⟨h.1, hW.trans h.2⟩
  have HC3 : Hid (∀ W, Kp 0 0 w8 W → Calls Tryd.prog 10 #[.agg #[.slice (some ⟨bt, 0, none⟩) 1 1, .slice (some ⟨bp, 0, none⟩) 3 3]] W fun r w' => r = .returned (.int .i64 1) ∧ Kp 0 0 w8 w') := fun W hW => by
    have h := HC _ Shp.bad.dc W _ _ (HSB8.out.keep0 hW).all Shp.bad_ok (Shp.short _) (HPW.out _ (HKA.out.trans hW))
    rw [bad_check] at h
    exact h.mono fun r w' h => ⟨h.1, hW.trans h.2⟩
  have HC4 : Hid (∀ W, Kp 0 0 w8 W → Calls Tryd.prog 10 #[.agg #[.slice (some ⟨lt, 0, none⟩) 1 1, .slice (some ⟨lp, 0, none⟩) 3 3]] W fun r w' => r = .returned (.int .i64 8) ∧ Kp 0 0 w8 w') := fun W hW => by
    have h := HC _ Shp.lost.dc W _ _ (HSL.out.keep0 hW).all Shp.lost_ok (Shp.short _) (HPW.out _ (HKA.out.trans hW))
    rw [lost_check] at h
    exact h.mono fun r w' h => ⟨h.1, hW.trans h.2⟩
  have HX1 : Hid (∀ W, Kp 0 0 w8 W → Calls Tryd.prog 15 #[.agg #[.slice (some ⟨gt, 0, none⟩) 1 1, .slice (some ⟨gp, 0, none⟩) 3 3], .int .i64 0, .int .i64 0, .int .i64 1, .int .i64 0] W fun r w' => r = .returned (.int .i64 1) ∧ Kp 0 0 w8 w') := fun W hW => by
    have h := HX _ Shp.std.dc 0 0 1 0 W _ _ (HSD.out.keep0 hW).all Shp.std_ok (Shp.short _) ⟨by decide, by decide⟩ ⟨by decide, by decide⟩ ⟨by decide, by decide⟩ ⟨by decide, by decide⟩ (HPW.out _ (HKA.out.trans hW))
    rw [shop_fits1] at h
    exact h.mono fun r w' h => ⟨h.1, hW.trans h.2⟩
  have HX2 : Hid (∀ W, Kp 0 0 w8 W → Calls Tryd.prog 15 #[.agg #[.slice (some ⟨gt, 0, none⟩) 1 1, .slice (some ⟨gp, 0, none⟩) 3 3], .int .i64 0, .int .i64 0, .int .i64 2, .int .i64 1] W fun r w' => r = .returned (.int .i64 2) ∧ Kp 0 0 w8 w') := fun W hW => by
    have h := HX _ Shp.std.dc 0 0 2 1 W _ _ (HSD.out.keep0 hW).all Shp.std_ok (Shp.short _) ⟨by decide, by decide⟩ ⟨by decide, by decide⟩ ⟨by decide, by decide⟩ ⟨by decide, by decide⟩ (HPW.out _ (HKA.out.trans hW))
    rw [shop_fits2] at h
    exact h.mono fun r w' h => ⟨h.1, hW.trans h.2⟩
  have HCL : Hid (∀ W, Kp 0 0 w8 W → W.cell? ⟨pd, 0, none⟩ = some (.slice (some ⟨gt, 0, none⟩) 1 1) ∧ W.cell? ⟨pd, 1, none⟩ = some (.slice (some ⟨gp, 0, none⟩) 3 3) ∧ W.cell? ⟨pb, 0, none⟩ = some (.slice (some ⟨bt, 0, none⟩) 1 1) ∧ W.cell? ⟨pb, 1, none⟩ = some (.slice (some ⟨bp, 0, none⟩) 3 3) ∧ W.cell? ⟨pl, 0, none⟩ = some (.slice (some ⟨lt, 0, none⟩) 1 1) ∧ W.cell? ⟨pl, 1, none⟩ = some (.slice (some ⟨lp, 0, none⟩) 3 3) ∧ W.cell? ⟨pf, 3, none⟩ = some (.slice mo 3 mc)) := fun W hW =>
    ⟨blk_cell (hW.heap HD8.out (.inr (Nat.zero_le _))) rfl, blk_cell (hW.heap HD8.out (.inr (Nat.zero_le _))) rfl, blk_cell (hW.heap HB8.out (.inr (Nat.zero_le _))) rfl, blk_cell (hW.heap HB8.out (.inr (Nat.zero_le _))) rfl, blk_cell (hW.heap HBL.out (.inr (Nat.zero_le _))) rfl, blk_cell (hW.heap HBL.out (.inr (Nat.zero_le _))) rfl, blk_cell (hW.heap HF8.out (.inr (Nat.zero_le _))) rfl⟩
  obtain ⟨a1, a2, a3, a4, a5, a6, a7⟩ := HCL.out w8 (Kp.refl _ _ _)
  go_wp2_with fail
  refine (HC1.out _ (Kp.refl _ _ _)).mono ?_
  rintro r v1 ⟨rfl, hk⟩
  obtain ⟨a1, a2, a3, a4, a5, a6, a7⟩ := HCL.out _ hk
  have HKV := Lib.hid hk
  clear hk
  go_wp2_with fail
  refine (HC2.out _ HKV.out).mono ?_
  rintro r v1 ⟨rfl, hk⟩
  obtain ⟨a1, a2, a3, a4, a5, a6, a7⟩ := HCL.out _ hk
  have HKV := Lib.hid hk
  clear hk
  go_wp2_with fail
  refine (HC3.out _ HKV.out).mono ?_
  rintro r v1 ⟨rfl, hk⟩
  obtain ⟨a1, a2, a3, a4, a5, a6, a7⟩ := HCL.out _ hk
  have HKV := Lib.hid hk
  clear hk
  go_wp2_with fail
  refine (HC4.out _ HKV.out).mono ?_
  rintro r v1 ⟨rfl, hk⟩
  obtain ⟨a1, a2, a3, a4, a5, a6, a7⟩ := HCL.out _ hk
  have HKV := Lib.hid hk
  clear hk
  go_wp2_with fail
  refine (HX1.out _ HKV.out).mono ?_
  rintro r v1 ⟨rfl, hk⟩
  obtain ⟨a1, a2, a3, a4, a5, a6, a7⟩ := HCL.out _ hk
  have HKV := Lib.hid hk
  clear hk
  go_wp2_with fail
  refine (HX2.out _ HKV.out).mono ?_
  rintro r v1 ⟨rfl, hk⟩
  have HKV := Lib.hid hk
  clear hk
  go_wp2_with fail
  go_returns
  exact ⟨rfl, HKA.out.trans HKV.out⟩

end Go.Proofs.YtdgeehcfdnokmaaDoor
