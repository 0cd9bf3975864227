/-
  DeclBytes as a contract.
-/
import Derived.Test.YtgokhagbknlfaaaDlBack
import Derived.Test.YtgokhagbknlfaaaDlGet
namespace Go.Proofs.Ytgokhagbknlfaaa
open Go.RowKit
set_option maxRecDepth 100000

set_option maxRecDepth 100000 in
set_option maxHeartbeats 8000000 in
theorem dbytes_any {P : World → Prop} (HP : DKeeps P) (HPU : DPutOk P) (HGE : DGetOk P) {S : Nat → Prop} {l2 h2 : Nat} (d : Dc) (B : List Int) (w : World) (tv pv vb : Value) (hd : RdD w S tv pv d) (hf : Sc.Fits d) (hb : RdI .u8 l2 h2 w vb B) (hB : ∀ y ∈ B, 0 ≤ y ∧ y < 256) (hp : P w) :
    Calls Try.prog 3 #[.agg #[tv, pv], vb] w fun r w' => r = .returned (.bool true) ∧ Kp 0 0 w w' := by
  have HPW : Hid (∀ W, Kp 0 0 w W → P W) := fun W hW => HP w W hp hW
  have HD := Lib.hid hd
  have HBB := Lib.hid hb
  have HBY := Lib.hid hB
  obtain ⟨to, tc, rfl, _, _, _⟩ := hd.t.open
  obtain ⟨po, pc, rfl, _, _, _⟩ := hd.p.open
  obtain ⟨bo, cb, rfl, hb3, hb4, _⟩ := hb.open
  have HKN : Hid (∀ W, Kp 0 0 w W → Calls Try.prog 8 #[] W fun r w' => r = .returned (.bool true) ∧ Kp 0 0 w w') := fun W hW => (knownD_any HP HPU HGE W (HPW.out _ hW)).mono fun r w' h => ⟨h.1, hW.trans h.2⟩
  have HKA : Hid (Kp 0 0 w (w.alloc (.cells #[.slice to d.ts.length tc, .slice po d.ps.length pc] 25))) := (Kp.refl _ _ _).alloc _
  have HBA := Lib.hid (blk_one w (.cells #[.slice to d.ts.length tc, .slice po d.ps.length pc] 25))
  have HLG := Lib.hid (dlong_any d _ _ _ (hd.keep0 HKA.out))
  clear hd hb hB hp
  go_enter Try.func3, Try.ntmps3
  go_upto_region 1 with fail
  generalize w.alloc (.cells #[.slice to d.ts.length tc, .slice po d.ps.length pc] 25) = w0 at HKA HBA HLG ⊢
  generalize w.heap.size = pa at HBA ⊢
  have q0 := blk_cell HBA.out (k := 0) (u := .slice to d.ts.length tc) rfl
  have q1 := blk_cell HBA.out (k := 1) (u := .slice po d.ps.length pc) rfl
  go_wp2_with fail
  refine HLG.out.mono ?_
  rintro r w1 ⟨rfl, hk1⟩
  have HK1 := Lib.hid (HKA.out.trans hk1)
  have HBA1 := Lib.hid (hk1.heap HBA.out (.inr (Nat.zero_le _)))
  clear hk1 q0 q1 HLG HBA HKA
  cases hlg : Dl.long d with
  | true =>
    go_wp2_with fail
    refine (HKN.out w1 HK1.out).mono ?_
    rintro r w2 ⟨rfl, hk⟩
    go_wp2_with fail
    go_returns
    exact ⟨rfl, hk⟩
  | false =>
  have hsh := Dl.short_of hlg
  by_cases h21 : 4096 < B.length
  · have h21i : (4096 : Int) < (B.length : Int) := by omega
    go_wp2_with fail
    refine (HKN.out w1 HK1.out).mono ?_
    rintro r w2 ⟨rfl, hk⟩
    go_wp2_with fail
    go_returns
    exact ⟨rfl, hk⟩
  have h21i : ¬ (4096 : Int) < (B.length : Int) := by omega
  have HSH := Lib.hid hsh
  have HC1 := Lib.hid (copyD_any d w1 _ _ (HD.out.keep0 HK1.out) hsh)
  have HP1 : Hid (∀ (S' : Nat → Prop) W tv pv, Kp 0 0 w W → RdD W S' tv pv d → Calls Try.prog 10 #[.agg #[tv, pv]] W fun r w' => (∃ o c, r = .returned (.tuple #[.slice o (Dl.put d).1.length c, .int .i64 (Dl.put d).2]) ∧ RdI .u8 0 w'.heap.size w' (.slice o (Dl.put d).1.length c) (Dl.put d).1) ∧ Kp 0 0 W w') := fun S' W tv pv hW hr => by
    refine (HPU _ d W _ _ hr hf (by have := HSH.out.1; omega) (by have := HSH.out.2.1; omega) (fun t ht => ⟨by have := (HSH.out.2.2 t ht).1; omega, fun f hf => (HSH.out.2.2 t ht).2 f hf⟩) (HPW.out _ hW)).mono ?_
    rintro r w' ⟨v, rfl, ho, hk⟩
    obtain ⟨o, c, rfl, _, _, _⟩ := ho.rd.open
    exact ⟨⟨o, c, rfl, ho.rd.wide (Nat.zero_le _) (Nat.le_refl _)⟩, hk⟩
  have HP2 : Hid (∀ W, Kp 0 0 w W → Calls Try.prog 11 #[.agg #[.slice to d.ts.length tc, .slice po d.ps.length pc]] W fun r w' => (∃ o c, r = .returned (.tuple #[.slice o (Dl.put d).1.length c, .int .i64 (Dl.put d).2]) ∧ RdI .u8 0 w'.heap.size w' (.slice o (Dl.put d).1.length c) (Dl.put d).1) ∧ Kp 0 0 W w') := fun W hW => by
    refine (refDPut_any d W _ _ (HD.out.keep0 hW) hf).mono ?_
    rintro r w' ⟨v, rfl, ho, hk⟩
    obtain ⟨o, c, rfl, _, _, _⟩ := ho.rd.open
    exact ⟨⟨o, c, rfl, ho.rd.wide (Nat.zero_le _) (Nat.le_refl _)⟩, hk⟩
  have HG1 : Hid (∀ W, Kp 0 0 w W → Calls Try.prog 14 #[.slice bo B.length cb] W fun r w' => (∃ to tc po pc, r = .returned (.tuple #[.agg #[.slice to (Dl.get B).1.ts.length tc, .slice po (Dl.get B).1.ps.length pc], .int .i64 (Dl.get B).2]) ∧ RdD w' (Iv W.heap.size w'.heap.size) (.slice to (Dl.get B).1.ts.length tc) (.slice po (Dl.get B).1.ps.length pc) (Dl.get B).1) ∧ Kp 0 0 W w') := fun W hW => by
    refine (HGE _ _ B W _ (HBB.out.keep0 hW) HBY.out (by omega) (HPW.out _ hW)).mono ?_
    rintro r w' ⟨tv, pv, rfl, hrd, hk⟩
    obtain ⟨to, tc, rfl, _, _, _⟩ := hrd.t.open
    obtain ⟨po, pc, rfl, _, _, _⟩ := hrd.p.open
    exact ⟨⟨to, tc, po, pc, rfl, hrd⟩, hk⟩
  have HG2 : Hid (∀ W, Kp 0 0 w W → Calls Try.prog 15 #[.slice bo B.length cb] W fun r w' => (∃ to tc po pc, r = .returned (.tuple #[.agg #[.slice to (Dl.get B).1.ts.length tc, .slice po (Dl.get B).1.ps.length pc], .int .i64 (Dl.get B).2]) ∧ RdD w' (Iv W.heap.size w'.heap.size) (.slice to (Dl.get B).1.ts.length tc) (.slice po (Dl.get B).1.ps.length pc) (Dl.get B).1) ∧ Kp 0 0 W w') := fun W hW => by
    refine (refDGet_any B W _ (HBB.out.keep0 hW) (by omega) HBY.out).mono ?_
    rintro r w' ⟨tv, pv, rfl, hrd, hk⟩
    obtain ⟨to, tc, rfl, _, _, _⟩ := hrd.t.open
    obtain ⟨po, pc, rfl, _, _, _⟩ := hrd.p.open
    exact ⟨⟨to, tc, po, pc, rfl, hrd⟩, hk⟩
  clear hlg hsh
  generalize Dl.put d = pu at HP1 HP2
  generalize Dl.get B = ge at HG1 HG2
  obtain ⟨X, e⟩ := pu
  obtain ⟨y, g⟩ := ge
  simp only at HP1 HP2 HG1 HG2
  have q0 := blk_cell HBA1.out (k := 0) (u := .slice to d.ts.length tc) rfl
  have q1 := blk_cell HBA1.out (k := 1) (u := .slice po d.ps.length pc) rfl
  go_upto_region 3 with fail
  go_wp2_with fail
  refine HC1.out.mono ?_
  rintro r w2 ⟨tv', pv', rfl, hown, hk⟩
  have HK2 := Lib.hid (HK1.out.trans hk)
  have HRD := Lib.hid (hown.rd (Nat.le_refl _))
  have HBA2 := Lib.hid (hk.heap HBA1.out (.inr (Nat.zero_le _)))
  obtain ⟨ito, itc, rfl, _, _, _⟩ := hown.t.rd (Nat.le_refl _) |>.open
  obtain ⟨ipo, ipc, rfl, _, _, _⟩ := HRD.out.p.open
  clear hk hown q0 q1 HBA1
  have HI := Lib.hid (blk_one w2 (.cells #[.slice ito d.ts.length itc, .slice ipo d.ps.length ipc] 25))
  have HKI : Hid (Kp 0 0 w2 (w2.alloc (.cells #[.slice ito d.ts.length itc, .slice ipo d.ps.length ipc] 25))) := (Kp.refl _ _ _).alloc _
  go_upto_region 4 with fail
  generalize w2.alloc (.cells #[.slice ito d.ts.length itc, .slice ipo d.ps.length ipc] 25) = w3 at HKI HI ⊢
  generalize w2.heap.size = pi at HI ⊢
  have x0 := blk_cell HI.out (k := 0) (u := .slice ito d.ts.length itc) rfl
  have x1 := blk_cell HI.out (k := 1) (u := .slice ipo d.ps.length ipc) rfl
  have HK3 := Lib.hid (HK2.out.trans HKI.out)
  have HBA3 := Lib.hid (HKI.out.heap HBA2.out (.inr (Nat.zero_le _)))
  have HRD3 := Lib.hid (HRD.out.keep0 HKI.out)
  clear HRD HBA2 HKI
  go_wp2_with fail
  refine (HP1.out _ w3 _ _ HK3.out HRD3.out).mono ?_
  rintro r w4 ⟨⟨o1, c1, rfl, hx⟩, hk⟩
  have HX := Lib.hid hx
  have HK4 := Lib.hid (HK3.out.trans hk)
  have HRD4 := Lib.hid (HRD3.out.keep0 hk)
  have HI4 := Lib.hid (hk.heap HI.out (.inr (Nat.zero_le _)))
  have HBA4 := Lib.hid (hk.heap HBA3.out (.inr (Nat.zero_le _)))
  clear hx hk x0 x1 HI HBA3 HRD3
  go_upto_region 5 with fail
  have q0 := blk_cell HBA4.out (k := 0) (u := .slice to d.ts.length tc) rfl
  have q1 := blk_cell HBA4.out (k := 1) (u := .slice po d.ps.length pc) rfl
  go_wp2_with fail
  refine (HP2.out w4 HK4.out).mono ?_
  rintro r w5 ⟨⟨o2, c2, rfl, hx⟩, hk⟩
  have HY := Lib.hid hx
  have HX5 := Lib.hid (HX.out.keep0 hk)
  have HK5 := Lib.hid (HK4.out.trans hk)
  have HRD5 := Lib.hid (HRD4.out.keep0 hk)
  have HI5 := Lib.hid (hk.heap HI4.out (.inr (Nat.zero_le _)))
  have HBA5 := Lib.hid (hk.heap HBA4.out (.inr (Nat.zero_le _)))
  clear hx hk q0 q1 HI4 HBA4 HRD4 HX
  have HS1 := Lib.hid (same_yes w5 _ _ X HX5.out HY.out)
  go_upto_region 6 with fail
  have hee : (e != e) = false := by simp
  have i0 := blk_cell HI5.out (k := 0) (u := .slice ito d.ts.length itc) rfl
  have i1 := blk_cell HI5.out (k := 1) (u := .slice ipo d.ps.length ipc) rfl
  have q0 := blk_cell HBA5.out (k := 0) (u := .slice to d.ts.length tc) rfl
  have q1 := blk_cell HBA5.out (k := 1) (u := .slice po d.ps.length pc) rfl
  go_wp2_with fail
  refine HS1.out.mono ?_
  rintro r w6 ⟨rfl, hk⟩
  have HK6 := Lib.hid (HK5.out.trans hk)
  have HS2 := Lib.hid (sameD_yes d w6 _ _ _ _ (HRD5.out.keep0 hk) (HD.out.keep0 HK6.out))
  have HI6 := Lib.hid (hk.heap HI5.out (.inr (Nat.zero_le _)))
  have HBA6 := Lib.hid (hk.heap HBA5.out (.inr (Nat.zero_le _)))
  clear hk i0 i1 q0 q1 HI5 HBA5 HS1 HX5 HY
  have i0 := blk_cell HI6.out (k := 0) (u := .slice ito d.ts.length itc) rfl
  have i1 := blk_cell HI6.out (k := 1) (u := .slice ipo d.ps.length ipc) rfl
  have q0 := blk_cell HBA6.out (k := 0) (u := .slice to d.ts.length tc) rfl
  have q1 := blk_cell HBA6.out (k := 1) (u := .slice po d.ps.length pc) rfl
  go_wp2_with fail
  refine HS2.out.mono ?_
  rintro r w7 ⟨rfl, hk⟩
  have HK7 := Lib.hid (HK6.out.trans hk)
  clear hk i0 i1 q0 q1 HI6 HBA6 HS2
  go_upto_region 8 with fail
  go_wp2_with fail
  refine (HG1.out w7 HK7.out).mono ?_
  rintro r u1 ⟨⟨ao, ac, bo', bc', rfl, hr⟩, hk⟩
  have HU1 := Lib.hid (HK7.out.trans hk)
  have HA1 := Lib.hid hr
  have HB1 := Lib.hid (blk_one u1 (.cells #[.slice ao y.ts.length ac, .slice bo' y.ps.length bc'] 25))
  have HKU : Hid (Kp 0 0 u1 (u1.alloc (.cells #[.slice ao y.ts.length ac, .slice bo' y.ps.length bc'] 25))) := (Kp.refl _ _ _).alloc _
  clear hk hr
  go_upto_region 9 with fail
  generalize u1.alloc (.cells #[.slice ao y.ts.length ac, .slice bo' y.ps.length bc'] 25) = u2 at HKU HB1 ⊢
  generalize u1.heap.size = px at HB1 ⊢
  have HU2 := Lib.hid (HU1.out.trans HKU.out)
  have HA2 := Lib.hid (HA1.out.keep0 HKU.out)
  clear HA1 HKU
  go_wp2_with fail
  refine (HG2.out u2 HU2.out).mono ?_
  rintro r u3 ⟨⟨eo, ec, fo, fc, rfl, hr⟩, hk⟩
  have HU3 := Lib.hid (HU2.out.trans hk)
  have HE3 := Lib.hid hr
  have HA3 := Lib.hid (HA2.out.keep0 hk)
  have HB3 := Lib.hid (hk.heap HB1.out (.inr (Nat.zero_le _)))
  have HC3 := Lib.hid (blk_one u3 (.cells #[.slice eo y.ts.length ec, .slice fo y.ps.length fc] 25))
  have HKV : Hid (Kp 0 0 u3 (u3.alloc (.cells #[.slice eo y.ts.length ec, .slice fo y.ps.length fc] 25))) := (Kp.refl _ _ _).alloc _
  clear hk hr HA2 HB1
  go_upto_region 10 with fail
  generalize u3.alloc (.cells #[.slice eo y.ts.length ec, .slice fo y.ps.length fc] 25) = u4 at HKV HC3 ⊢
  generalize u3.heap.size = pz at HC3 ⊢
  have HU4 := Lib.hid (HU3.out.trans HKV.out)
  have HB4 := Lib.hid (HKV.out.heap HB3.out (.inr (Nat.zero_le _)))
  have HSD := Lib.hid (sameD_yes y u4 _ _ _ _ (HA3.out.keep0 HKV.out) (HE3.out.keep0 HKV.out))
  clear HKV HB3 HA3 HE3
  have a0 := blk_cell HB4.out (k := 0) (u := .slice ao y.ts.length ac) rfl
  have a1 := blk_cell HB4.out (k := 1) (u := .slice bo' y.ps.length bc') rfl
  have e0 := blk_cell HC3.out (k := 0) (u := .slice eo y.ts.length ec) rfl
  have e1 := blk_cell HC3.out (k := 1) (u := .slice fo y.ps.length fc) rfl
  have hgg : (g == g) = true := by simp
  go_wp2_with fail
  refine HSD.out.mono ?_
  rintro r u5 ⟨rfl, hk⟩
  have HU5 := Lib.hid (HU4.out.trans hk)
  clear hk a0 a1 e0 e1
  go_wp2_with fail
  refine (HKN.out u5 HU5.out).mono ?_
  rintro r u6 ⟨rfl, hk⟩
  go_wp2_with fail
  go_returns
  exact ⟨rfl, hk⟩
end Go.Proofs.Ytgokhagbknlfaaa
