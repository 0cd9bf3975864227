/-
  quaysidelaw07.known: a type with a counter.
-/
import Derived.Test.YtgokhagbknlfaaaDlSpec
namespace Go.Proofs.Ytgokhagbknlfaaa
open Go.RowKit

theorem kn_rd {w : World} {f t : Nat} (hF : w.heap[f]? = some (.cells #[.int .i64 1, .int .i64 1, .bool true, .slice none 0 0] 45 (0, 0))) (hT : w.heap[t]? = some (.cells #[.slice (some ⟨f, 0, none⟩) 1 1] 42 (0, 0))) :
    RdD w (fun _ => True) (.slice (some ⟨t, 0, none⟩) 1 1) (.slice none 0 0) Dl.kn := by
  refine ⟨⟨_, 1, rfl, Nat.le_refl _, by decide, (fun h => by cases h), fun _ => ⟨t, 0, rfl, trivial, fun i x hi => ?_⟩⟩, RdS.nil _ _ _ _⟩
  match i, hi with
  | 0, hi =>
    simp [Dl.kn] at hi
    subst hi
    refine ⟨[.slice (some ⟨f, 0, none⟩) 1 1], rfl, fun j u hu => ?_, _, rfl, ⟨_, 1, rfl, Nat.le_refl _, by decide, (fun h => by cases h), fun _ => ⟨f, 0, rfl, trivial, fun i x hi => ?_⟩⟩⟩
    · match j, hu with
      | 0, hu =>
        cases hu
        exact blk_cell hT rfl
    · match i, hi with
      | 0, hi =>
        simp at hi
        subst hi
        refine ⟨[.int .i64 1, .int .i64 1, .bool true, .slice none 0 0], rfl, fun j u hu => ?_, _, rfl, RdS.nil _ _ _ _⟩
        match j, hu with
        | 0, hu => cases hu; exact blk_cell hF rfl
        | 1, hu => cases hu; exact blk_cell hF rfl
        | 2, hu => cases hu; exact blk_cell hF rfl
        | 3, hu => cases hu; exact blk_cell hF rfl

set_option maxRecDepth 100000 in
set_option maxHeartbeats 4000000 in
theorem knownD_any {P : World → Prop} (HP : DKeeps P) (HPU : DPutOk P) (HGE : DGetOk P) (w : World) (hp : P w) :
    Calls Try.prog 8 #[] w fun r w' => r = .returned (.bool true) ∧ Kp 0 0 w w' := by
  have HPW : Hid (∀ W, Kp 0 0 w W → P W) := fun W hW => HP w W hp hW
  clear hp
  have HK1 : Hid (Kp 0 0 w (((w.alloc (.cells #[.int .i64 1, .int .i64 1, .bool true, .slice none 0 0] 45)).alloc (.cells #[.slice (some ⟨w.heap.size, 0, none⟩) 1 1] 42)).alloc (.cells #[.slice (some ⟨w.heap.size + 1, 0, none⟩) 1 1, .slice none 0 0] 25))) := (((Kp.refl _ _ _).alloc _).alloc _).alloc _
  have HF := Lib.hid (blk_old (blk_old (blk_one w (.cells #[.int .i64 1, .int .i64 1, .bool true, .slice none 0 0] 45)) (.cells #[.slice (some ⟨w.heap.size, 0, none⟩) 1 1] 42)) (.cells #[.slice (some ⟨w.heap.size + 1, 0, none⟩) 1 1, .slice none 0 0] 25))
  have HT := Lib.hid (blk_old (blk_two w (.cells #[.int .i64 1, .int .i64 1, .bool true, .slice none 0 0] 45) (.cells #[.slice (some ⟨w.heap.size, 0, none⟩) 1 1] 42)) (.cells #[.slice (some ⟨w.heap.size + 1, 0, none⟩) 1 1, .slice none 0 0] 25))
  have HD := Lib.hid (blk_three w (.cells #[.int .i64 1, .int .i64 1, .bool true, .slice none 0 0] 45) (.cells #[.slice (some ⟨w.heap.size, 0, none⟩) 1 1] 42) (.cells #[.slice (some ⟨w.heap.size + 1, 0, none⟩) 1 1, .slice none 0 0] 25))
  go_enter Try.func8, Try.ntmps8
  go_upto_region 2 with fail
  generalize ((w.alloc (.cells #[.int .i64 1, .int .i64 1, .bool true, .slice none 0 0] 45)).alloc (.cells #[.slice (some ⟨w.heap.size, 0, none⟩) 1 1] 42)).alloc (.cells #[.slice (some ⟨w.heap.size + 1, 0, none⟩) 1 1, .slice none 0 0] 25) = w1 at HK1 HF HT HD ⊢
  generalize w.heap.size + 1 + 1 = qd at HD ⊢
  generalize w.heap.size + 1 = qt at HT HD ⊢
  generalize w.heap.size = qf at HF HT ⊢
  have HR := Lib.hid (kn_rd HF.out HT.out)
  have d0 := blk_cell HD.out (k := 0) (u := .slice (some ⟨qt, 0, none⟩) 1 1) rfl
  have d1 := blk_cell HD.out (k := 1) (u := .slice none 0 0) rfl
  have hpu := HPU _ Dl.kn w1 _ _ HR.out (Dl.fits_of Dl.kn_ok) (by decide) (by decide) (by decide) (HPW.out _ HK1.out)
  rw [Dl.kn_put] at hpu
  have HPT := Lib.hid hpu
  clear hpu HF HT
  go_wp2_with fail
  refine HPT.out.mono ?_
  rintro r w2 ⟨v2, rfl, hown2, hk2⟩
  have HK2 := Lib.hid hk2
  have HB2 := Lib.hid hown2.rd
  obtain ⟨bo, bc, rfl, _, _, _⟩ := hown2.rd.open
  have hge := HGE _ _ _ w2 _ HB2.out (by decide) (by decide) (HPW.out _ (HK1.out.trans hk2))
  rw [Dl.kn_get] at hge
  have HGT := Lib.hid hge
  clear hge hown2 hk2 d0 d1 HPT
  go_wp2_with fail
  refine HGT.out.mono ?_
  rintro r w3 ⟨tv, pv, rfl, hrd, hk3⟩
  obtain ⟨to, tc, rfl, _, _, _⟩ := hrd.t.open
  obtain ⟨po, pc, rfl, _, _, _⟩ := hrd.p.open
  have HK3 : Hid (Kp 0 0 w1 (w3.alloc (.cells #[.slice to Dl.kn.ts.length tc, .slice po Dl.kn.ps.length pc] 25))) := HK2.out.trans (hk3.alloc _)
  have HB3 := Lib.hid ((HB2.out.keep0 hk3).keep0 ((Kp.refl 0 0 w3).alloc (.cells #[.slice to Dl.kn.ts.length tc, .slice po Dl.kn.ps.length pc] 25)))
  have HR3 := Lib.hid (hrd.keep0 ((Kp.refl 0 0 w3).alloc (.cells #[.slice to Dl.kn.ts.length tc, .slice po Dl.kn.ps.length pc] 25)))
  have HX := Lib.hid (blk_one w3 (.cells #[.slice to Dl.kn.ts.length tc, .slice po Dl.kn.ps.length pc] 25))
  clear hrd hk3 HGT
  go_upto_region 4 with fail
  generalize w3.alloc (.cells #[.slice to Dl.kn.ts.length tc, .slice po Dl.kn.ps.length pc] 25) = w4 at HK3 HB3 HR3 HX ⊢
  generalize w3.heap.size = qx at HX ⊢
  have HLT := Lib.hid (lit_rd .u8 5 w4 [1, 1, 1, 1, 1, 1, 1, 1, 1, 1, 0, 0] (by decide))
  have HKL : Hid (Kp 0 0 w4 (w4.alloc (.cells (([1, 1, 1, 1, 1, 1, 1, 1, 1, 1, 0, 0] : List Int).map (.int .u8)).toArray 5))) := (Kp.refl _ _ _).alloc _
  go_wp2_with fail
  refine (same_yes _ _ _ _ (HB3.out.keep0 HKL.out) HLT.out).mono ?_
  rintro r w5 ⟨rfl, hk5⟩
  have HK5 := Lib.hid (HKL.out.trans hk5)
  have hd5 := (HK3.out.trans HK5.out).heap HD.out (.inr (Nat.zero_le _))
  have hx5 := HK5.out.heap HX.out (.inr (Nat.zero_le _))
  have d0 := blk_cell hd5 (k := 0) (u := .slice (some ⟨qt, 0, none⟩) 1 1) rfl
  have d1 := blk_cell hd5 (k := 1) (u := .slice none 0 0) rfl
  have x0 := blk_cell hx5 (k := 0) (u := .slice to Dl.kn.ts.length tc) rfl
  have x1 := blk_cell hx5 (k := 1) (u := .slice po Dl.kn.ps.length pc) rfl
  clear hk5 hd5 hx5
  go_wp2_with fail
  refine (sameD_yes Dl.kn _ _ _ _ _ (HR3.out.keep0 HK5.out) (HR.out.keep0 (HK3.out.trans HK5.out))).mono ?_
  rintro r w6 ⟨rfl, hk6⟩
  go_wp2_with fail
  go_returns
  exact ⟨rfl, HK1.out.trans (HK3.out.trans (HK5.out.trans hk6))⟩

end Go.Proofs.Ytgokhagbknlfaaa
