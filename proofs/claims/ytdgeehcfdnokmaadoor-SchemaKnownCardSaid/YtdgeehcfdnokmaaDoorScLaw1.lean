/-
  SchemaChecks as a contract.
-/
import Derived.Test.YtdgeehcfdnokmaaDoorScSpec
import Derived.Test.YtdgeehcfdnokmaaDoorScRef5
import Derived.Test.YtdgeehcfdnokmaaDoorScCopy
import Derived.Test.YtdgeehcfdnokmaaDoorScSame
import Derived.Test.YtdgeehcfdnokmaaDoorScLong
namespace Go.Proofs.YtdgeehcfdnokmaaDoor
open Go.RowKit

theorem refSField_all {S : Nat → Prop} (d : Dc) (t f : Int) (w : World) (tv pv : Value) (hd : RdD w S tv pv d) (hs : Sc.Short d) :
    Calls Tryd.prog 12 #[.agg #[tv, pv], .int .i64 t, .int .i64 f] w fun r w' => ∃ mv, r = .returned (.tuple #[fieldV ((Sc.field d t f).getD Sc.z) mv, .bool (Sc.field d t f).isSome]) ∧ OwnS mvE 39 4 w.heap.size w' (fun _ => False) mv ((Sc.field d t f).getD Sc.z).ms ∧ Kp 0 0 w w' := by
  cases h : Sc.field d t f with
  | none =>
    refine (refSField_none d t f w tv pv hd h).mono fun r w' hr => ?_
    exact ⟨_, hr.1, OwnS.nil _ _ _ _ _ _, hr.2⟩
  | some x =>
    obtain ⟨n, m, T, rfl, rfl, hT, hx⟩ := Sc.field_inv h
    have h1 := (hs.2.2 T (List.mem_of_getElem? hT)).2 x (List.mem_of_getElem? hx)
    exact refSField_some d n m T x w tv pv hd hT hx (by omega)

theorem short_ms {d : Dc} (h : Sc.Short d) : ∀ T ∈ d.ts, ∀ F ∈ T, F.ms.length ≤ 1000000 := fun T hT F hF => by
  have := (h.2.2 T hT).2 F hF
  omega

set_option maxRecDepth 100000 in
set_option maxHeartbeats 8000000 in
theorem schecks_any {P : World → Prop} (HP : SKeeps P) (HC : SCheckOk P) (HF : SFieldOk P) (HX : SFitsOk P) {S : Nat → Prop} (d : Dc) (t f op arg : Int) (w : World) (tv pv : Value) (hd : RdD w S tv pv d) (hfit : Sc.Fits d) (ht : Sc.I64 t) (hf : Sc.I64 f) (hop : Sc.I64 op) (harg : Sc.I64 arg) (hp : P w) :
    Calls Tryd.prog 3 #[.agg #[tv, pv], .int .i64 t, .int .i64 f, .int .i64 op, .int .i64 arg] w fun r w' => r = .returned (.bool true) ∧ Kp 0 0 w w' := by
  have HPW : Hid (∀ W, Kp 0 0 w W → P W) := fun W hW => HP w W hp hW
  have HWK : Hid (∀ W, Kp 0 0 w W → Calls Tryd.prog 8 #[] W fun r w' => r = .returned (.bool true) ∧ Kp 0 0 w w') := fun W hW => (works_any HP HC HF HX W (HPW.out W hW)).mono fun r w' h => ⟨h.1, hW.trans h.2⟩
  have HD := Lib.hid hd
  have HI : Hid (Sc.I64 t ∧ Sc.I64 f ∧ Sc.I64 op ∧ Sc.I64 arg) := ⟨ht, hf, hop, harg⟩
  have HFT := Lib.hid hfit
  obtain ⟨to, tc, rfl, _, _, _⟩ := hd.t.open
  obtain ⟨po, pc, rfl, _, _, _⟩ := hd.p.open
  clear hp hd ht hf hop harg hfit
  have HW1 : Hid (Kp 0 0 w (w.alloc (.cells #[.slice to d.ts.length tc, .slice po d.ps.length pc] 25))) := (Kp.refl _ _ _).alloc _
  have HQ5 := Lib.hid (blk_one w (.cells #[.slice to d.ts.length tc, .slice po d.ps.length pc] 25))
  go_enter Tryd.func3, Tryd.ntmps3
  go_wp2_with fail
  generalize w.alloc (.cells #[.slice to d.ts.length tc, .slice po d.ps.length pc] 25) = w1 at HW1 HQ5 ⊢
  generalize w.heap.size = q5 at HQ5 ⊢
  refine (long_any d w1 _ _ (HD.out.keep0 HW1.out)).mono ?_
  rintro r w2 ⟨rfl, hk⟩
  have HW2 := Lib.hid (HW1.out.trans hk)
  have HQ52 := Lib.hid (hk.heap HQ5.out (.inr (Nat.zero_le _)))
  clear hk HQ5
  by_cases hl : Sc.long d = true
  · rw [hl]
    clear hl
    go_wp2_with fail
    refine (HWK.out _ HW2.out).mono ?_
    rintro r w3 ⟨rfl, hk⟩
    go_wp2_with fail
    go_returns
    exact ⟨rfl, hk⟩
  have hl : Sc.long d = false := by simpa using hl
  have HS := Lib.hid (Sc.long_no hl)
  rw [hl]
  clear hl
  have a0 := blk_cell HQ52.out (k := 0) (u := .slice to d.ts.length tc) rfl
  have a1 := blk_cell HQ52.out (k := 1) (u := .slice po d.ps.length pc) rfl
  go_wp2_with fail
  refine (copyD_any d w2 _ _ (HD.out.keep0 HW2.out) HS.out).mono ?_
  rintro r w3 ⟨tx, px, rfl, hod, hk⟩
  obtain ⟨xo, xc, rfl⟩ : ∃ ao c, tx = .slice ao d.ts.length c := by
    obtain ⟨_, _, h, _⟩ := hod.t
    exact ownsRow_open h
  obtain ⟨yo, yc, rfl⟩ : ∃ ao c, px = .slice ao d.ps.length c := by
    obtain ⟨_, h, _⟩ := hod.p
    exact ownsRow_open h
  clear a0 a1
  go_upto_region 4 with fail
  have HW4 : Hid (Kp 0 0 w (w3.alloc (.cells #[.slice xo d.ts.length xc, .slice yo d.ps.length yc] 25))) := (HW2.out.trans hk).alloc _
  have HX4 : Hid (RdD (w3.alloc (.cells #[.slice xo d.ts.length xc, .slice yo d.ps.length yc] 25)) (Iv w2.heap.size w3.heap.size) (.slice xo d.ts.length xc) (.slice yo d.ps.length yc) d) := (hod.rd (Nat.le_refl _)).keep0 ((Kp.refl _ _ _).alloc _)
  have HQ54 := Lib.hid (((hk.alloc (.cells #[.slice xo d.ts.length xc, .slice yo d.ps.length yc] 25))).heap HQ52.out (.inr (Nat.zero_le _)))
  have HQX := Lib.hid (blk_one w3 (.cells #[.slice xo d.ts.length xc, .slice yo d.ps.length yc] 25))
  have HSZ : Hid (w3.heap.size ≤ (w3.alloc (.cells #[.slice xo d.ts.length xc, .slice yo d.ps.length yc] 25)).heap.size) := by show _ ≤ _; rw [alloc_size]; omega
  clear hod hk HQ52
  generalize w3.alloc (.cells #[.slice xo d.ts.length xc, .slice yo d.ps.length yc] 25) = w4 at HW4 HX4 HQ54 HQX HSZ ⊢
  generalize hqx : w3.heap.size = qx at HX4 HQX HSZ ⊢
  clear hqx
  have a0 := blk_cell HQ54.out (k := 0) (u := .slice to d.ts.length tc) rfl
  have a1 := blk_cell HQ54.out (k := 1) (u := .slice po d.ps.length pc) rfl
  have b0 := blk_cell HQX.out (k := 0) (u := .slice xo d.ts.length xc) rfl
  have b1 := blk_cell HQX.out (k := 1) (u := .slice yo d.ps.length yc) rfl
  go_wp2_with fail
  refine (HC _ d w4 _ _ HX4.out HFT.out HS.out (HPW.out _ HW4.out)).mono ?_
  rintro r w5 ⟨rfl, hk⟩
  have HW5 := Lib.hid (HW4.out.trans hk)
  have HX5 := Lib.hid (HX4.out.keep0 hk)
  have HQ5 := Lib.hid (hk.heap HQ54.out (.inr (Nat.zero_le _)))
  have HQX5 := Lib.hid (hk.heap HQX.out (.inr (Nat.zero_le _)))
  have HSZ5 : Hid (qx ≤ w5.heap.size) := Nat.le_trans HSZ.out hk.size
  have HS5W : Hid (w.heap.size ≤ w5.heap.size) := HW5.out.size
  have b0 := hk.cell b0 (.inr (Nat.zero_le _))
  have b1 := hk.cell b1 (.inr (Nat.zero_le _))
  clear hk a0 a1 HQ54 HQX HX4 HW4
  go_wp2_with fail
  refine (HF _ d t f w5 _ _ HX5.out HFT.out HS.out HI.out.1 HI.out.2.1 (HPW.out _ HW5.out)).mono ?_
  rintro r w6 ⟨mv, rfl, hmv, hk⟩
  unfold fieldV
  generalize hXX : (Sc.field d t f).getD Sc.z = X at hmv ⊢
  generalize hIS : (Sc.field d t f).isSome = is at hmv ⊢
  have HXX := Lib.hid hXX
  have HIS := Lib.hid hIS
  clear hXX hIS
  obtain ⟨mo, mc, rfl⟩ : ∃ ao c, mv = .slice ao X.ms.length c := by
    obtain ⟨_, h, _⟩ := hmv
    exact ownsRow_open h
  clear b0 b1
  go_upto_region 6 with fail
  have HW7 : Hid (Kp 0 0 w (w6.alloc (.cells #[.int .i64 X.k, .int .i64 X.p, .bool X.b, .slice mo X.ms.length mc] 33))) := (HW5.out.trans hk).alloc _
  have hka := hk.alloc (.cells #[.int .i64 X.k, .int .i64 X.p, .bool X.b, .slice mo X.ms.length mc] 33)
  have HX7 := Lib.hid (HX5.out.keep0 hka)
  have HQ7 := Lib.hid (hka.heap HQ5.out (.inr (Nat.zero_le _)))
  have HQX7 := Lib.hid (hka.heap HQX5.out (.inr (Nat.zero_le _)))
  have HQF := Lib.hid (blk_one w6 (.cells #[.int .i64 X.k, .int .i64 X.p, .bool X.b, .slice mo X.ms.length mc] 33))
  have HMV : Hid (OwnS mvE 39 4 w5.heap.size (w6.alloc (.cells #[.int .i64 X.k, .int .i64 X.p, .bool X.b, .slice mo X.ms.length mc] 33)) (fun _ => False) (.slice mo X.ms.length mc) X.ms) := hmv.keep0 mvE_good ((Kp.refl _ _ _).alloc _)
  clear hk hka hmv HQ5 HQX5 HX5
  generalize w6.alloc (.cells #[.int .i64 X.k, .int .i64 X.p, .bool X.b, .slice mo X.ms.length mc] 33) = w7 at HW7 HX7 HQ7 HQX7 HQF HMV ⊢
  generalize w6.heap.size = qf at HQF ⊢
  have a0 := blk_cell HQ7.out (k := 0) (u := .slice to d.ts.length tc) rfl
  have a1 := blk_cell HQ7.out (k := 1) (u := .slice po d.ps.length pc) rfl
  go_wp2_with fail
  refine (refSField_all d t f w7 _ _ (HD.out.keep0 HW7.out) HS.out).mono ?_
  rintro r w8 ⟨mv, rfl, hmv, hk⟩
  unfold fieldV
  rw [HXX.out, HIS.out] at *
  obtain ⟨no, nc, rfl⟩ : ∃ ao c, mv = .slice ao X.ms.length c := by
    obtain ⟨_, h, _⟩ := hmv
    exact ownsRow_open h
  clear a0 a1
  go_upto_region 7 with fail
  have hka := hk.alloc (.cells #[.int .i64 X.k, .int .i64 X.p, .bool X.b, .slice no X.ms.length nc] 33)
  have HW9 : Hid (Kp 0 0 w (w8.alloc (.cells #[.int .i64 X.k, .int .i64 X.p, .bool X.b, .slice no X.ms.length nc] 33))) := HW7.out.trans hka
  have HX9 := Lib.hid (HX7.out.keep0 hka)
  have HQ9 := Lib.hid (hka.heap HQ7.out (.inr (Nat.zero_le _)))
  have HQX9 := Lib.hid (hka.heap HQX7.out (.inr (Nat.zero_le _)))
  have HQF9 := Lib.hid (hka.heap HQF.out (.inr (Nat.zero_le _)))
  have HQG := Lib.hid (blk_one w8 (.cells #[.int .i64 X.k, .int .i64 X.p, .bool X.b, .slice no X.ms.length nc] 33))
  have HMV9 := Lib.hid (HMV.out.keep0 mvE_good hka)
  have HNV9 : Hid (RdS mvE 4 (w8.alloc (.cells #[.int .i64 X.k, .int .i64 X.p, .bool X.b, .slice no X.ms.length nc] 33)) (fun _ => True) (.slice no X.ms.length nc) X.ms) := (hmv.rd (S := fun _ => False) mvE_good (fun _ _ h => False.elim h) (fun _ _ => trivial)).keep0 mvE_good ((Kp.refl _ _ _).alloc _)
  clear hk hka hmv HQ7 HQX7 HX7 HQF HMV
  generalize w8.alloc (.cells #[.int .i64 X.k, .int .i64 X.p, .bool X.b, .slice no X.ms.length nc] 33) = w9 at HW9 HX9 HQ9 HQX9 HQF9 HQG HMV9 HNV9 ⊢
  generalize w8.heap.size = qg at HQG ⊢
  have HMR : Hid (RdS mvE 4 w9 (fun _ => True) (.slice mo X.ms.length mc) X.ms) := HMV9.out.rd (S := fun _ => False) mvE_good (fun _ _ h => False.elim h) (fun _ _ => trivial)
  have HA1 : Hid (∀ W, Kp 0 0 w9 W → Calls Tryd.prog 13 #[.agg #[.slice to d.ts.length tc, .slice po d.ps.length pc]] W fun r w' => r = .returned (.int .i64 (Sc.check d)) ∧ Kp 0 0 w9 w') := fun W hW => (refSCheck_any d W _ _ (HD.out.keep0 (HW9.out.trans hW)) (short_ms HS.out)).mono fun r w' h => ⟨h.1, hW.trans h.2⟩
  have HA2 : Hid (∀ W, Kp 0 0 w9 W → Calls Tryd.prog 14 #[.agg #[.int .i64 X.k, .int .i64 X.p, .bool X.b, .slice mo X.ms.length mc], .agg #[.int .i64 X.k, .int .i64 X.p, .bool X.b, .slice no X.ms.length nc]] W fun r w' => r = .returned (.bool true) ∧ Kp 0 0 w9 w') := fun W hW => (sameFl_yes X W _ _ (HMR.out.keep0 mvE_good hW) (HNV9.out.keep0 mvE_good hW)).mono fun r w' h => ⟨h.1, hW.trans h.2⟩
  have HA3 : Hid (∀ W, Kp 0 0 w9 W → Calls Tryd.prog 15 #[.agg #[.slice xo d.ts.length xc, .slice yo d.ps.length yc], .int .i64 t, .int .i64 f, .int .i64 op, .int .i64 arg] W fun r w' => r = .returned (.int .i64 (Sc.fits d t f op arg)) ∧ Kp 0 0 w9 w') := fun W hW => (HX _ d t f op arg W _ _ (HX9.out.keep0 hW) HFT.out HS.out HI.out.1 HI.out.2.1 HI.out.2.2.1 HI.out.2.2.2 (HPW.out _ (HW9.out.trans hW))).mono fun r w' h => ⟨h.1, hW.trans h.2⟩
  have HA4 : Hid (∀ W, Kp 0 0 w9 W → Calls Tryd.prog 16 #[.agg #[.slice to d.ts.length tc, .slice po d.ps.length pc], .int .i64 t, .int .i64 f, .int .i64 op, .int .i64 arg] W fun r w' => r = .returned (.int .i64 (Sc.fits d t f op arg)) ∧ Kp 0 0 w9 w') := fun W hW => (refSFits_any d t f op arg W _ _ (HD.out.keep0 (HW9.out.trans hW)) (short_ms HS.out)).mono fun r w' h => ⟨h.1, hW.trans h.2⟩
  have HKS : Hid (∀ W, Kp 0 0 w9 W → W.cell? ⟨q5, 0, none⟩ = some (.slice to d.ts.length tc) ∧ W.cell? ⟨q5, 1, none⟩ = some (.slice po d.ps.length pc) ∧ W.cell? ⟨qx, 0, none⟩ = some (.slice xo d.ts.length xc) ∧ W.cell? ⟨qx, 1, none⟩ = some (.slice yo d.ps.length yc) ∧ W.cell? ⟨qf, 0, none⟩ = some (.int .i64 X.k) ∧ W.cell? ⟨qf, 1, none⟩ = some (.int .i64 X.p) ∧ W.cell? ⟨qf, 2, none⟩ = some (.bool X.b) ∧ W.cell? ⟨qf, 3, none⟩ = some (.slice mo X.ms.length mc) ∧ W.cell? ⟨qg, 0, none⟩ = some (.int .i64 X.k) ∧ W.cell? ⟨qg, 1, none⟩ = some (.int .i64 X.p) ∧ W.cell? ⟨qg, 2, none⟩ = some (.bool X.b) ∧ W.cell? ⟨qg, 3, none⟩ = some (.slice no X.ms.length nc) ∧ Kp 0 0 w9 W) := fun W hW =>
    ⟨blk_cell (hW.heap HQ9.out (.inr (Nat.zero_le _))) rfl, blk_cell (hW.heap HQ9.out (.inr (Nat.zero_le _))) rfl, blk_cell (hW.heap HQX9.out (.inr (Nat.zero_le _))) rfl, blk_cell (hW.heap HQX9.out (.inr (Nat.zero_le _))) rfl, blk_cell (hW.heap HQF9.out (.inr (Nat.zero_le _))) rfl, blk_cell (hW.heap HQF9.out (.inr (Nat.zero_le _))) rfl, blk_cell (hW.heap HQF9.out (.inr (Nat.zero_le _))) rfl, blk_cell (hW.heap HQF9.out (.inr (Nat.zero_le _))) rfl, blk_cell (hW.heap HQG.out (.inr (Nat.zero_le _))) rfl, blk_cell (hW.heap HQG.out (.inr (Nat.zero_le _))) rfl, blk_cell (hW.heap HQG.out (.inr (Nat.zero_le _))) rfl, blk_cell (hW.heap HQG.out (.inr (Nat.zero_le _))) rfl, hW⟩
  generalize Sc.check d = ck at *
  generalize Sc.fits d t f op arg = ft at *
  have n1 : (ck != ck) = false := by simp
  have n2 : (is != is) = false := by simp
  have n3 : (ft != ft) = false := by simp
  have hk0 : Kp 0 0 w9 w9.drew := (Kp.refl 0 0 w9).drew
  go_region_held3 (fun W => W.cell? ⟨q5, 0, none⟩ = some (.slice to d.ts.length tc) ∧ W.cell? ⟨q5, 1, none⟩ = some (.slice po d.ps.length pc) ∧ W.cell? ⟨qx, 0, none⟩ = some (.slice xo d.ts.length xc) ∧ W.cell? ⟨qx, 1, none⟩ = some (.slice yo d.ps.length yc) ∧ W.cell? ⟨qf, 0, none⟩ = some (.int .i64 X.k) ∧ W.cell? ⟨qf, 1, none⟩ = some (.int .i64 X.p) ∧ W.cell? ⟨qf, 2, none⟩ = some (.bool X.b) ∧ W.cell? ⟨qf, 3, none⟩ = some (.slice mo X.ms.length mc) ∧ W.cell? ⟨qg, 0, none⟩ = some (.int .i64 X.k) ∧ W.cell? ⟨qg, 1, none⟩ = some (.int .i64 X.p) ∧ W.cell? ⟨qg, 2, none⟩ = some (.bool X.b) ∧ W.cell? ⟨qg, 3, none⟩ = some (.slice no X.ms.length nc) ∧ Kp 0 0 w9 W)
    (first | exact HKS.out _ hk8 | exact HKS.out _ hk0)
    ((first
      | (go_at_call 13
         refine (HA1.out _ (by first | exact hk8 | exact hk0)).mono ?_
         rintro r w10 ⟨rfl, hk8⟩)
      | (go_at_call 14
         refine (HA2.out _ hk8).mono ?_
         rintro r w10 ⟨rfl, hk8⟩)
      | (go_at_call 15
         refine (HA3.out _ hk8).mono ?_
         rintro r w10 ⟨rfl, hk8⟩)
      | (go_at_call 16
         refine (HA4.out _ hk8).mono ?_
         rintro r w10 ⟨rfl, hk8⟩)))
  have HK10 := Lib.hid hk8
  have HW10 := Lib.hid (HW9.out.trans hk8)
  have HX10 := Lib.hid (HX9.out.keep0 hk8)
  have HQ10 := Lib.hid (hk8.heap HQ9.out (.inr (Nat.zero_le _)))
  have HQX10 := Lib.hid (hk8.heap HQX9.out (.inr (Nat.zero_le _)))
  have HQF10 := Lib.hid (hk8.heap HQF9.out (.inr (Nat.zero_le _)))
  have HMV10 := Lib.hid (HMV9.out.keep0 mvE_good hk8)
  clear hk8 HQ9 HQX9 HQF9 HMV9 HX9 HA1 HA2 HA3 HA4 HKS HQG HNV9 HMR n1 n2 n3 hk0
  have hLB : X.ms.length ≤ 9223372036854775807 := by
    obtain ⟨xs, ⟨_, h2⟩, _⟩ := HMV10.out
    rcases h2 with ⟨_, hn⟩ | ⟨g, cap, cur, _, _, _, hn5, hc5, _, _⟩
    · omega
    · unfold maxLen at hc5
      omega
  obtain ⟨gm, hg1, hg2, hg3⟩ : ∃ gm, w5.heap.size ≤ gm ∧ (∀ (b : Nat) (c : Array Value) (e : TypeId), w10.heap[b]? = some (.cells c e (0, 0)) → e ≠ 39 → b < gm ∨ gm + 1 ≤ b) ∧ (0 < X.ms.length → mo = some ⟨gm, 0, none⟩ ∧ ∃ cur : Array Value, w10.heap[gm]? = some (.cells cur 39 (0, 0)) ∧ X.ms.length * 4 ≤ cur.size) := by
    obtain ⟨xs, ⟨_, h2⟩, _⟩ := HMV10.out
    rcases h2 with ⟨he, hn⟩ | ⟨g, cap, cur, he, hb, hg, hn5, _, hs, _⟩
    · refine ⟨max w5.heap.size w10.heap.size, by omega, fun b c e hb _ => ?_, fun h => by omega⟩
      have := heap_lt hb
      omega
    · simp only [Value.slice.injEq] at he
      obtain ⟨rfl, _, rfl⟩ := he
      refine ⟨g, hb, fun b c e hc hne => ?_, fun _ => ⟨rfl, cur, hg, ?_⟩⟩
      · have : b ≠ g := by
          intro hbg
          subst hbg
          rw [hg] at hc
          cases hc
          exact hne rfl
        omega
      · have : X.ms.length * 4 ≤ mc * 4 := Nat.mul_le_mul_right 4 hn5
        omega
  have HG2 := Lib.hid hg2
  have HG3 := Lib.hid hg3
  clear hg2 hg3
  generalize hL : X.ms.length = L at *
  clear hL
  go_wp2_with fail
  go_loopw [17] (fun i wr => ∃ k : Nat, k ≤ L ∧ i = .int .i64 k ∧ (0 < L → ∃ cur : Array Value, wr.heap[gm]? = some (.cells cur 39 (0, 0)) ∧ L * 4 ≤ cur.size) ∧ Kp gm (gm + 1) w10 wr) (fun i _ => L - (intOf i).toNat)
  case atStart => exact ⟨0, Nat.zero_le _, rfl, fun h => (HG3.out h).2, Kp.refl _ _ _⟩
  case round =>
    obtain ⟨k, hk, rfl, hcur, hkp⟩ := hrel
    have HKP := Lib.hid hkp
    have f3 := blk_cell (hkp.heap HQF10.out (HG2.out _ _ _ HQF10.out (by decide))) (k := 3) (u := .slice mo L mc) rfl
    by_cases hlt : k < L
    · obtain ⟨cur, hc, hcs⟩ := hcur (by omega)
      obtain ⟨rfl, _⟩ := HG3.out (by omega)
      have k0 : (0 : Int) ≤ (k : Int) := Int.natCast_nonneg _
      have k1 : (k : Int) < (L : Int) := by omega
      have z0 : k * 4 < cur.size := by omega
      have z1 : k * 4 + 1 < cur.size := by omega
      have z2 : k * 4 + 2 < cur.size := by omega
      have z3 : k * 4 + 3 < cur.size := by omega
      have c0 := blk_cell hc (k := 0 + k * 4) (u := cur[k * 4]) (by rw [Nat.zero_add]; exact Array.getElem?_eq_getElem z0)
      have c1 := blk_cell hc (k := 0 + k * 4 + 1) (u := cur[k * 4 + 1]) (by rw [Nat.zero_add]; exact Array.getElem?_eq_getElem z1)
      have c2 := blk_cell hc (k := 0 + k * 4 + 2) (u := cur[k * 4 + 2]) (by rw [Nat.zero_add]; exact Array.getElem?_eq_getElem z2)
      have c3 := blk_cell hc (k := 0 + k * 4 + 3) (u := cur[k * 4 + 3]) (by rw [Nat.zero_add]; exact Array.getElem?_eq_getElem z3)
      have y0 := blk_frozen hc (0 + k * 4)
      have y1 := blk_frozen hc (0 + k * 4 + 1)
      have y2 := blk_frozen hc (0 + k * 4 + 2)
      have y3 := blk_frozen hc (0 + k * 4 + 3)
      rw [Nat.zero_add] at c0 c1 c2 c3 y0 y1 y2 y3
      have HC9 : Hid (0 < L → ∃ cur : Array Value, ((((wr.setCell ⟨gm, k * 4, none⟩ (.int .i64 77)).setCell ⟨gm, k * 4 + 1, none⟩ (.int .i64 0)).setCell ⟨gm, k * 4 + 2, none⟩ (.int .i64 0)).setCell ⟨gm, k * 4 + 3, none⟩ (.int .i64 0)).heap[gm]? = some (.cells cur 39 (0, 0)) ∧ L * 4 ≤ cur.size) := fun _ => ⟨_, blk_set (blk_set (blk_set (blk_set hc _ _) _ _) _ _) _ _, by simpa using hcs⟩
      have HK9 : Hid (Kp gm (gm + 1) w10 ((((wr.setCell ⟨gm, k * 4, none⟩ (.int .i64 77)).setCell ⟨gm, k * 4 + 1, none⟩ (.int .i64 0)).setCell ⟨gm, k * 4 + 2, none⟩ (.int .i64 0)).setCell ⟨gm, k * 4 + 3, none⟩ (.int .i64 0))) := (((HKP.out.trans (kp_set _ _ _ _)).trans (kp_set _ _ _ _)).trans (kp_set _ _ _ _)).trans (kp_set _ _ _ _)
      generalize cur[k * 4] = u0 at c0
      generalize cur[k * 4 + 1] = u1 at c1
      generalize cur[k * 4 + 2] = u2 at c2
      generalize cur[k * 4 + 3] = u3 at c3
      clear hc hcs hcur hkp z0 z1 z2 z3
      go_wp2_with fail
      go_roundw
      case rel => exact ⟨k + 1, by omega, by go_num, HC9.out, HK9.out⟩
      case measure => simp [intOf]; omega
    · clear hcur
      have HWR : Hid (Kp 0 0 w wr) := HW10.out.step hkp (fun j h1 h2 => .inl (by have := HS5W.out; omega))
      have HXR : Hid (RdD wr (Iv w2.heap.size qx) (.slice xo d.ts.length xc) (.slice yo d.ps.length yc) d) := HX10.out.keep hkp (fun b hb => by have := hb.2; have := HSZ5.out; omega)
      have hq5 := hkp.heap HQ10.out (HG2.out _ _ _ HQ10.out (by decide))
      have hqx := hkp.heap HQX10.out (HG2.out _ _ _ HQX10.out (by decide))
      have a0 := blk_cell hq5 (k := 0) (u := .slice to d.ts.length tc) rfl
      have a1 := blk_cell hq5 (k := 1) (u := .slice po d.ps.length pc) rfl
      have b0 := blk_cell hqx (k := 0) (u := .slice xo d.ts.length xc) rfl
      have b1 := blk_cell hqx (k := 1) (u := .slice yo d.ps.length yc) rfl
      clear hq5 hqx hkp
      go_wp2_with fail
      refine (sameD_yes d wr _ _ _ _ HXR.out (HD.out.keep0 HWR.out)).mono ?_
      rintro r v1 ⟨rfl, hk⟩
      go_wp2_with fail
      refine (HWK.out _ (HWR.out.trans hk)).mono ?_
      rintro r v2 ⟨rfl, hk2⟩
      go_wp2_with fail
      go_returns
      exact ⟨rfl, hk2⟩

end Go.Proofs.YtdgeehcfdnokmaaDoor
