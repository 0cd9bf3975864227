/-
  SchemaParts as a contract.
-/
import Derived.Test.YtdgeehcfdnokmaaDoorScSpec
import Derived.Test.YtdgeehcfdnokmaaDoorScLong
import Derived.Test.YtdgeehcfdnokmaaDoorScPart
import Derived.Test.YtdgeehcfdnokmaaDoorScTurn
import Derived.Test.YtdgeehcfdnokmaaDoorScKn
import Derived.Test.YtdgeehcfdnokmaaDoorPickI
import Derived.Deep.RegionHeld3
import Derived.Deep.CutRange
import Derived.PlainAid
namespace Go.Proofs.YtdgeehcfdnokmaaDoor
open Go.RowKit

/-- One thing of a row, as a row. -/
theorem RdS.one_at {α : Type} {E : Rp α} {w : World} {S : Nat → Prop} {b o c : Nat} {l : List α} (h : ClS E 1 w S (some ⟨b, o, none⟩) l) {i : Nat} {x : α} (hi : l[i]? = some x) (h1 : 1 ≤ c) (h2 : c ≤ maxLen) : RdS E 1 w S (.slice (some ⟨b, o + i, none⟩) 1 c) [x] := by
  obtain ⟨b', o', e, hb, hx⟩ := h (by have := (List.getElem?_eq_some_iff.1 hi).1; omega)
  cases e
  obtain ⟨xs, hl, hc, he⟩ := hx i x hi
  refine ⟨some ⟨b, o + i, none⟩, c, rfl, h1, h2, (fun h => by cases h), fun _ => ⟨b, o + i, rfl, hb, fun j y hj => ?_⟩⟩
  match j, hj with
  | 0, hj =>
    simp at hj
    subst hj
    refine ⟨xs, hl, fun j u hu => ?_, he⟩
    have := hc j u hu
    simpa using this

set_option maxRecDepth 100000 in
set_option maxHeartbeats 8000000 in
theorem sparts_any {P : World → Prop} (HP : SKeeps P) (HC : SCheckOk P) (HF : SFieldOk P) (HX : SFitsOk P) {S : Nat → Prop} (d : Dc) (typ op arg : Int) (w : World) (tv pv : Value) (hd : RdD w S tv pv d) (hfit : Sc.Fits d) (htyp : Sc.I64 typ) (hop : Sc.I64 op) (harg : Sc.I64 arg) (hp : P w) :
    Calls Tryd.prog 4 #[.agg #[tv, pv], .int .i64 typ, .int .i64 op, .int .i64 arg] w fun r w' => r = .returned (.bool true) ∧ Kp 0 0 w w' := by
  have HPW : Hid (∀ W, Kp 0 0 w W → P W) := fun W hW => HP w W hp hW
  have HWK : Hid (∀ W, Kp 0 0 w W → Calls Tryd.prog 8 #[] W fun r w' => r = .returned (.bool true) ∧ Kp 0 0 w w') := fun W hW => (works_any HP HC HF HX W (HPW.out W hW)).mono fun r w' h => ⟨h.1, hW.trans h.2⟩
  have HCN : Hid (∀ W, Kp 0 0 w W → Calls Tryd.prog 10 #[.agg #[.slice none 0 0, .slice none 0 0]] W fun r w' => r = .returned (.int .i64 3) ∧ Kp 0 0 w w') := fun W hW => by
    have h := HC (fun _ => True) ⟨[], []⟩ W _ _ (none_rd _ _) none_fits none_short (HPW.out _ hW)
    rw [none_check] at h
    exact h.mono fun r w' h => ⟨h.1, hW.trans h.2⟩
  have HD := Lib.hid hd
  have HI := Lib.hid (show Sc.I64 typ ∧ Sc.I64 op ∧ Sc.I64 arg from ⟨htyp, hop, harg⟩)
  have HFT := Lib.hid hfit
  obtain ⟨ti, tc, rfl, _, _, htc⟩ := hd.t.open
  obtain ⟨po, pc, rfl, _, _, _⟩ := hd.p.open
  have HTC := Lib.hid htc
  clear hp hd harg hfit htc htyp hop
  have HW1 : Hid (Kp 0 0 w (w.alloc (.cells #[.slice ti d.ts.length tc, .slice po d.ps.length pc] 25))) := (Kp.refl _ _ _).alloc _
  have HQ := Lib.hid (blk_one w (.cells #[.slice ti d.ts.length tc, .slice po d.ps.length pc] 25))
  go_enter Tryd.func4, Tryd.ntmps4
  go_wp2_with fail
  generalize w.alloc (.cells #[.slice ti d.ts.length tc, .slice po d.ps.length pc] 25) = w1 at HW1 HQ ⊢
  generalize w.heap.size = q at HQ ⊢
  refine (long_any d w1 _ _ (HD.out.keep0 HW1.out)).mono ?_
  rintro r w2 ⟨rfl, hk⟩
  have HW2 := Lib.hid (HW1.out.trans hk)
  have HQ2 := Lib.hid (hk.heap HQ.out (.inr (Nat.zero_le _)))
  clear hk HQ
  by_cases hl : Sc.long d = true
  · rw [hl]
    clear hl
    go_wp2_with fail
    refine (HCN.out _ HW2.out).mono ?_
    rintro r w3 ⟨rfl, hk⟩
    have HW3 := Lib.hid hk
    clear hk
    go_wp2_with fail
    refine (HWK.out _ HW3.out).mono ?_
    rintro r w4 ⟨rfl, hk⟩
    go_wp2_with fail
    go_returns
    exact ⟨rfl, hk⟩
  have hl : Sc.long d = false := by simpa using hl
  have HS := Lib.hid (Sc.long_no hl)
  rw [hl]
  clear hl
  have a0 := blk_cell HQ2.out (k := 0) (u := .slice ti d.ts.length tc) rfl
  have a1 := blk_cell HQ2.out (k := 1) (u := .slice po d.ps.length pc) rfl
  go_wp2_with fail
  refine (HC _ d w2 _ _ (HD.out.keep0 HW2.out) HFT.out HS.out (HPW.out _ HW2.out)).mono ?_
  rintro r w3 ⟨rfl, hk⟩
  have HW3 := Lib.hid (HW2.out.trans hk)
  have HQ3 := Lib.hid (hk.heap HQ2.out (.inr (Nat.zero_le _)))
  clear hk HQ2 a0 a1
  by_cases hck : Sc.check d = 0
  case neg =>
    have e0 : (Sc.check d != 0) = true := by simpa using hck
    go_wp2_with fail
    refine (HCN.out _ HW3.out).mono ?_
    rintro r w4 ⟨rfl, hk⟩
    have HW4 := Lib.hid hk
    clear hk
    go_wp2_with fail
    refine (HWK.out _ HW4.out).mono ?_
    rintro r w5 ⟨rfl, hk⟩
    go_wp2_with fail
    go_returns
    exact ⟨rfl, hk⟩
  have HCK := Lib.hid hck
  rw [hck]
  clear hck
  have hty := Sc.has_type HCK.out
  have hne : ((d.ts.length : Int) == 0) = false := by
    have : ¬ ((d.ts.length : Int) = 0) := by omega
    simpa using this
  have a0 := blk_cell HQ3.out (k := 0) (u := .slice ti d.ts.length tc) rfl
  have a1 := blk_cell HQ3.out (k := 1) (u := .slice po d.ps.length pc) rfl
  go_wp2_with fail
  refine (copyD_any d w3 _ _ (HD.out.keep0 HW3.out) HS.out).mono ?_
  rintro r w4 ⟨xt, xp, rfl, hown, hk⟩
  obtain ⟨xto, xtc, rfl⟩ : ∃ ao c, xt = .slice ao d.ts.length c := by
    obtain ⟨_, _, h, _⟩ := hown.t
    exact ownsRow_open h
  obtain ⟨xpo, xpc, rfl⟩ : ∃ ao c, xp = .slice ao d.ps.length c := by
    obtain ⟨_, h, _⟩ := hown.p
    exact ownsRow_open h
  have HO4 := Lib.hid hown
  have HW4 := Lib.hid (HW3.out.trans hk)
  have HQ4 := Lib.hid (hk.heap HQ3.out (.inr (Nat.zero_le _)))
  have HB4 : Hid (w.heap.size ≤ w3.heap.size ∧ w3.heap.size ≤ w4.heap.size) := ⟨HW3.out.size, hk.size⟩
  clear hown hk a0 a1
  go_upto_region 4 with fail
  have HX5 := Lib.hid (blk_one w4 (.cells #[.slice xto d.ts.length xtc, .slice xpo d.ps.length xpc] 25))
  have hka : Kp 0 0 w4 (w4.alloc (.cells #[.slice xto d.ts.length xtc, .slice xpo d.ps.length xpc] 25)) := (Kp.refl _ _ _).alloc _
  have HO5 := Lib.hid (HO4.out.keep0 hka)
  have HW5 := Lib.hid (HW4.out.trans hka)
  have HQ5 := Lib.hid (hka.heap HQ4.out (.inr (Nat.zero_le _)))
  have HB5 : Hid (w.heap.size ≤ w3.heap.size ∧ w3.heap.size ≤ w4.heap.size ∧ q < w4.heap.size) := ⟨HB4.out.1, HB4.out.2, heap_lt HQ4.out⟩
  clear hka HQ3 HQ4
  generalize w4.alloc (.cells #[.slice xto d.ts.length xtc, .slice xpo d.ps.length xpc] 25) = w5 at HX5 HO5 HW5 HQ5 ⊢
  generalize w4.heap.size = qx at HX5 HB5 ⊢
  have hpn : d.ps.length ≤ xpc := by
    obtain ⟨ao, c, e, h, _⟩ := (HO5.out.rd (Nat.le_refl _)).p
    cases e
    exact h
  have x1 := blk_cell HX5.out (k := 1) (u := .slice xpo d.ps.length xpc) rfl
  go_upto_if 38 with fail
  clear x1
  go_cut [8, 38] from 39 to 132 (fun r _ W => r = .bool false ∧ W.heap[qx]? = some (.cells #[.slice xto d.ts.length xtc, .slice xpo (d.ps.length - 1) xpc] 25 (0, 0)) ∧ Kp qx (qx + 1) w5 W)
  case first =>
    have x1 := blk_cell HX5.out (k := 1) (u := .slice xpo d.ps.length xpc) rfl
    have fx := blk_frozen HX5.out 1
    by_cases hn : 0 < d.ps.length
    · have HST := Lib.hid (blk_set HX5.out 1 (.slice xpo (d.ps.length - 1) xpc))
      have hni : (0 : Int) < (d.ps.length : Int) := by omega
      have hw1 : IntKind.i64.wrap ((d.ps.length : Int) - 1) = ((d.ps.length - 1 : Nat) : Int) := by rw [PlainAid.i64_is]; unfold wrap64; omega
      have hle : d.ps.length - 1 ≤ xpc := by omega
      clear hn
      go_wp2_with fail
      go_meet
      case rel => exact ⟨rfl, HST.out, kp_set _ _ _ _⟩
    · have hni : ¬ (0 : Int) < (d.ps.length : Int) := by omega
      have HST : Hid (w5.heap[qx]? = some (.cells #[.slice xto d.ts.length xtc, .slice xpo (d.ps.length - 1) xpc] 25 (0, 0))) := by
        show _ = _
        rw [show d.ps.length - 1 = d.ps.length by omega]
        exact HX5.out
      clear hn
      go_wp2_with fail
      go_meet
      case rel => exact ⟨rfl, HST.out, Kp.refl _ _ _⟩
  case rest =>
    obtain ⟨rfl, hx6, hk6⟩ := hcut
    have HW6 : Hid (Kp 0 0 w wc) := HW5.out.step hk6 fun j h1 h2 => .inl (by have := HB5.out; omega)
    have HQ6 := Lib.hid (hk6.heap HQ5.out (.inl HB5.out.2.2))
    have HO6 : Hid (OwnD w3.heap.size wc (.slice xto d.ts.length xtc) (.slice xpo (d.ps.length - 1) xpc) ⟨d.ts, d.ps.dropLast⟩) := (HO5.out.last rfl).ktag (Ktag.of_blk HX5.out hk6)
    have HX6 := Lib.hid hx6
    clear hx6 hk6 HQ5 HO5 HX5 HW5 hpn
    have a0 := blk_cell HQ6.out (k := 0) (u := .slice ti d.ts.length tc) rfl
    have hpr := pick_range (k := typ) (n := (d.ts.length : Int)) (by omega)
    go_wp2_with fail
    refine (pick_any typ (d.ts.length : Int) _ HI.out.1.1 HI.out.1.2 (by omega)).mono ?_
    rintro r w6 ⟨rfl, rfl⟩
    obtain ⟨t, ht⟩ : ∃ t : Nat, pick typ (d.ts.length : Int) = (t : Int) := ⟨(pick typ (d.ts.length : Int)).toNat, by omega⟩
    rw [ht] at hpr ⊢
    have htl : t < d.ts.length := by omega
    clear ht hpr
    obtain ⟨T, hT⟩ : ∃ T, d.ts[t]? = some T := ⟨_, List.getElem?_eq_getElem htl⟩
    have hTm : T ∈ d.ts := List.mem_of_getElem? hT
    obtain ⟨F, R, rfl⟩ := Sc.has_field HCK.out hTm
    obtain ⟨b, o, fo, fc, rfl, hbS, c1, _, _, hf⟩ := ty_at HTC.out hT
    have HTM := Lib.hid (And.intro hT hTm)
    have HC1 := Lib.hid (show w.cell? ⟨b, o + t, none⟩ = some (.slice fo (R.length + 1) fc) from c1)
    have HFS := Lib.hid hf
    clear hf c1 hTm hT hbS
    have i0 : (0 : Int) ≤ (t : Int) := Int.natCast_nonneg _
    have i1 : (t : Int) < (d.ts.length : Int) := by omega
    have htc1 : ¬ tc = t := by omega
    go_upto_region 8 with fail
    have hka : Kp 0 0 wc (wc.alloc (.cells #[.slice (some ⟨b, o + t, none⟩) 1 (tc - t), .slice none 0 0] 25)) := (Kp.refl _ _ _).alloc _
    have HY7 := Lib.hid (blk_one wc (.cells #[.slice (some ⟨b, o + t, none⟩) 1 (tc - t), .slice none 0 0] 25))
    have HQ7 := Lib.hid (hka.heap HQ6.out (.inr (Nat.zero_le _)))
    have HX7 := Lib.hid (hka.heap HX6.out (.inr (Nat.zero_le _)))
    have HO7 := Lib.hid (HO6.out.keep0 hka)
    have HW7 := Lib.hid (HW6.out.trans hka)
    have HB7 : Hid (w.heap.size ≤ w3.heap.size ∧ w3.heap.size ≤ qx ∧ q < qx ∧ qx < wc.heap.size) := ⟨HB5.out.1, HB5.out.2.1, HB5.out.2.2, heap_lt HX6.out⟩
    have HYR : Hid (∀ W, Kp 0 0 w W → RdD W S (.slice (some ⟨b, o + t, none⟩) 1 (tc - t)) (.slice none 0 0) ⟨[F :: R], []⟩) := fun W hW => ⟨RdS.one_at (HTC.out.keep0 tyE_good hW) HTM.out.1 (by omega) (by unfold maxLen; omega), RdS.nil _ _ _ _⟩
    clear hka HQ6 HX6 HO6 HW6 HB5 a0
    generalize wc.alloc (.cells #[.slice (some ⟨b, o + t, none⟩) 1 (tc - t), .slice none 0 0] 25) = w7 at HY7 HQ7 HX7 HO7 HW7 ⊢
    generalize wc.heap.size = qy at HY7 HB7 ⊢
    have HKS : Hid (∀ W, Kp 0 0 w7 W → W.cell? ⟨q, 0, none⟩ = some (.slice (some ⟨b, o, none⟩) d.ts.length tc) ∧ W.cell? ⟨q, 1, none⟩ = some (.slice po d.ps.length pc) ∧ W.cell? ⟨qx, 0, none⟩ = some (.slice xto d.ts.length xtc) ∧ W.cell? ⟨qx, 1, none⟩ = some (.slice xpo (d.ps.length - 1) xpc) ∧ W.cell? ⟨qy, 0, none⟩ = some (.slice (some ⟨b, o + t, none⟩) 1 (tc - t)) ∧ W.cell? ⟨qy, 1, none⟩ = some (.slice none 0 0) ∧ W.cell? ⟨b, o + t, none⟩ = some (.slice fo (R.length + 1) fc)) := fun W hW =>
      ⟨blk_cell (hW.heap HQ7.out (.inr (Nat.zero_le _))) rfl, blk_cell (hW.heap HQ7.out (.inr (Nat.zero_le _))) rfl, blk_cell (hW.heap HX7.out (.inr (Nat.zero_le _))) rfl, blk_cell (hW.heap HX7.out (.inr (Nat.zero_le _))) rfl, blk_cell (hW.heap HY7.out (.inr (Nat.zero_le _))) rfl, blk_cell (hW.heap HY7.out (.inr (Nat.zero_le _))) rfl, (HW7.out.trans hW).cell HC1.out (.inr (Nat.zero_le _))⟩
    have HX1 : Hid (∀ W, Kp 0 0 w7 W → Calls Tryd.prog 10 #[.agg #[.slice xto d.ts.length xtc, .slice xpo (d.ps.length - 1) xpc]] W fun r w' => r = .returned (.int .i64 0) ∧ Kp 0 0 w7 w') := fun W hW => by
      have h := HC _ ⟨d.ts, d.ps.dropLast⟩ W _ _ ((HO7.out.keep0 hW).rd (Nat.le_refl _)) (Sc.fits_last HFT.out) (Sc.short_last HS.out) (HPW.out _ (HW7.out.trans hW))
      rw [Sc.parts_last HCK.out] at h
      exact h.mono fun r w' h => ⟨h.1, hW.trans h.2⟩
    have HY1 : Hid (∀ W, Kp 0 0 w7 W → Calls Tryd.prog 10 #[.agg #[.slice (some ⟨b, o + t, none⟩) 1 (tc - t), .slice none 0 0]] W fun r w' => r = .returned (.int .i64 0) ∧ Kp 0 0 w7 w') := fun W hW => by
      have h := HC _ ⟨[F :: R], []⟩ W _ _ (HYR.out W (HW7.out.trans hW)) (Sc.fits_one HFT.out HTM.out.2) (Sc.short_one HS.out HTM.out.2) (HPW.out _ (HW7.out.trans hW))
      rw [Sc.parts_one HCK.out HTM.out.2] at h
      exact h.mono fun r w' h => ⟨h.1, hW.trans h.2⟩
    obtain ⟨a0, a1, x0, x1, y0, y1, b0⟩ := HKS.out w7 (Kp.refl _ _ _)
    go_wp2_with fail
    refine (HX1.out w7 (Kp.refl _ _ _)).mono ?_
    rintro r w8 ⟨rfl, hk⟩
    have HK8 := Lib.hid hk
    obtain ⟨a0, a1, x0, x1, y0, y1, b0⟩ := HKS.out w8 hk
    clear hk
    go_wp2_with fail
    refine (HY1.out w8 HK8.out).mono ?_
    rintro r w9 ⟨rfl, hk⟩
    have HK9 := Lib.hid hk
    obtain ⟨a0, a1, x0, x1, y0, y1, b0⟩ := HKS.out w9 hk
    clear hk HX1 HY1
    go_wp2_with fail
    have hR20 : R.length + 1 ≤ 20 := (HS.out.2.2 _ HTM.out.2).1
    clear a0 a1 x0 x1 y0 y1 b0
    go_loopw [11] (fun i wr => ∃ k : Nat, k ≤ R.length + 3 ∧ i = .int .i64 ((k : Int) - 1) ∧ Kp 0 0 w7 wr) (fun i _ => R.length + 3 - (intOf i + 1).toNat)
    case atStart => exact ⟨0, Nat.zero_le _, rfl, HK9.out⟩
    case round =>
      obtain ⟨k, hk, rfl, hkp⟩ := hrel
      have HKP := Lib.hid hkp
      obtain ⟨a0, a1, x0, x1, y0, y1, b0⟩ := HKS.out wr hkp
      clear hkp
      by_cases hlt : k < R.length + 3
      · have hle : (k : Int) - 1 ≤ ((R.length + 1 : Nat) : Int) := by omega
        obtain ⟨E, hE⟩ : ∃ E, Sc.fits d (t : Int) ((k : Int) - 1) op arg = E := ⟨_, rfl⟩
        have HE1 : Hid (∀ W, Kp 0 0 w7 W → Calls Tryd.prog 15 #[.agg #[.slice (some ⟨b, o, none⟩) d.ts.length tc, .slice po d.ps.length pc], .int .i64 t, .int .i64 ((k : Int) - 1), .int .i64 op, .int .i64 arg] W fun r w' => r = .returned (.int .i64 E) ∧ Kp 0 0 w7 w') := fun W hW => by
          have hWW := HW7.out.trans hW
          have h := HX _ d t ((k : Int) - 1) op arg W _ _ (HD.out.keep0 hWW) HFT.out HS.out ⟨by omega, by omega⟩ ⟨by omega, by omega⟩ HI.out.2.1 HI.out.2.2 (HPW.out _ hWW)
          rw [hE] at h
          exact h.mono fun r w' h => ⟨h.1, hW.trans h.2⟩
        have HE2 : Hid (∀ W, Kp 0 0 w7 W → Calls Tryd.prog 15 #[.agg #[.slice (some ⟨b, o + t, none⟩) 1 (tc - t), .slice none 0 0], .int .i64 0, .int .i64 ((k : Int) - 1), .int .i64 op, .int .i64 arg] W fun r w' => r = .returned (.int .i64 E) ∧ Kp 0 0 w7 w') := fun W hW => by
          have hWW := HW7.out.trans hW
          have h := HX _ ⟨[F :: R], []⟩ 0 ((k : Int) - 1) op arg W _ _ (HYR.out W hWW) (Sc.fits_one HFT.out HTM.out.2) (Sc.short_one HS.out HTM.out.2) ⟨by decide, by decide⟩ ⟨by omega, by omega⟩ HI.out.2.1 HI.out.2.2 (HPW.out _ hWW)
          rw [Sc.parts_fits HTM.out.1, hE] at h
          exact h.mono fun r w' h => ⟨h.1, hW.trans h.2⟩
        have HEE : Hid (∀ (v : Value) (u : Int) W, ((v = .agg #[.slice (some ⟨b, o, none⟩) d.ts.length tc, .slice po d.ps.length pc] ∧ u = (t : Int)) ∨ (v = .agg #[.slice (some ⟨b, o + t, none⟩) 1 (tc - t), .slice none 0 0] ∧ u = 0)) → Kp 0 0 w7 W → Calls Tryd.prog 15 #[v, .int .i64 u, .int .i64 ((k : Int) - 1), .int .i64 op, .int .i64 arg] W fun r w' => r = .returned (.int .i64 E) ∧ Kp 0 0 w7 w') := fun v u W h hW => by
          rcases h with ⟨rfl, rfl⟩ | ⟨rfl, rfl⟩
          · exact HE1.out W hW
          · exact HE2.out W hW
        clear HE1 HE2
        have hee : (E != E) = false := by simp
        clear hE
        have hk0 : Kp 0 0 w7 wr.drew := HKP.out.drew
        go_wp2_with fail
        go_region_held3 (fun W => W.cell? ⟨q, 0, none⟩ = some (.slice (some ⟨b, o, none⟩) d.ts.length tc) ∧ W.cell? ⟨q, 1, none⟩ = some (.slice po d.ps.length pc) ∧ W.cell? ⟨qx, 0, none⟩ = some (.slice xto d.ts.length xtc) ∧ W.cell? ⟨qx, 1, none⟩ = some (.slice xpo (d.ps.length - 1) xpc) ∧ W.cell? ⟨qy, 0, none⟩ = some (.slice (some ⟨b, o + t, none⟩) 1 (tc - t)) ∧ W.cell? ⟨qy, 1, none⟩ = some (.slice none 0 0) ∧ W.cell? ⟨b, o + t, none⟩ = some (.slice fo (R.length + 1) fc))
          (first | exact HKS.out _ hk7 | exact HKS.out _ hk0)
          ((first
            | (go_at_call 15
               refine (HEE.out _ _ _ ?_ ?_).mono ?_
               · first | exact .inl ⟨rfl, rfl⟩ | exact .inr ⟨rfl, rfl⟩
               · first | exact hk7 | exact hk0
               rintro r v1 ⟨rfl, hk7⟩)))
        all_goals
          go_wp2_with fail
          go_roundw
          case rel => exact ⟨k + 1, by omega, by first | (congr 1; omega) | go_num, hk7⟩
          case measure => simp [intOf]; omega
      · obtain rfl : k = R.length + 3 := by omega
        have hle : ¬ (((R.length + 3 : Nat) : Int) - 1 ≤ ((R.length + 1 : Nat) : Int)) := by omega
        have HO10 := Lib.hid (HO7.out.keep0 HKP.out)
        have HW10 := Lib.hid (HW7.out.trans HKP.out)
        have HX10 := Lib.hid (HKP.out.heap HX7.out (.inr (Nat.zero_le _)))
        have HQ10 := Lib.hid (HKP.out.heap HQ7.out (.inr (Nat.zero_le _)))
        obtain ⟨tip, hi3, hv0, hv1, hv2⟩ := info_parts info_pj
        obtain ⟨xs, hrow, hsp, _⟩ := HO10.out.p
        have hln : d.ps.dropLast.length = d.ps.length - 1 := List.length_dropLast
        dsimp only at hrow
        rw [hln] at hrow
        have HSP := Lib.hid hsp
        have HLN := Lib.hid hln
        clear hsp hln y0 y1 a1
        have hwr : w3.heap.size ≤ wr.heap.size := by
          have h1 := heap_lt HX10.out
          have h2 := HB7.out
          omega
        go_wp2_with (at_builtin; refine wpList_append_own _ rfl _ _ 23 rfl w3.heap.size 47 tip (.agg #[.int .i64 0, .int .i64 0, .int .i64 0, .int .i64 0, .int .i64 0]) 5 40 Tryd.underlying23 hi3 hv0 hv1 hv2 rfl (by decide) _ _ _ rfl (hrow.alloc _) ⟨wr.heap.size, 0, none⟩ 1 1 [.int .i64 (d.ts.length : Int), .int .i64 0, .int .i64 1, .int .i64 0, .int .i64 2] rfl rfl (cell_lits _ _ _) (by simp [Value.oneCell']) ?c3 ?c4 ?c5 ?_)
        case c3 => unfold maxLen; omega
        case c4 => omega
        case c5 => first | exact hwr | (rw [alloc_size]; omega) | omega
        intro v8 w8 hown8 hg8 _
        obtain ⟨g8, c8, rfl, hg81, hg82⟩ := own_some hown8 (by omega)
        have ht8 : Ktag 47 wr w8 := (Ktag.of_kp ((Kp.refl 0 0 wr).alloc _)).trans (Ktag.of_grown hg8 (ownsRow_tag (hrow.alloc _)))
        have hk8 : Kp 0 0 w w8 := (HW10.out.alloc _).grown hg8 fun g hg => .inl (by have := (ownsRow_lt hrow g hg).1; have := HB7.out; omega)
        have hx8 := ht8 qx _ _ HX10.out (by decide)
        have hq8 := ht8 q _ _ HQ10.out (by decide)
        have x1 := blk_cell hx8 (k := 1) (u := .slice xpo (d.ps.length - 1) xpc) rfl
        have fx := blk_frozen hx8 1
        have HX9 : Hid ((w8.setCell ⟨qx, 1, none⟩ (.slice (some ⟨g8, 0, none⟩) (d.ps.length - 1 + 1) c8)).heap[qx]? = some (.cells #[.slice xto d.ts.length xtc, .slice (some ⟨g8, 0, none⟩) (d.ps.length - 1 + 1) c8] 25 (0, 0))) := blk_set hx8 1 _
        have HQ9 : Hid ((w8.setCell ⟨qx, 1, none⟩ (.slice (some ⟨g8, 0, none⟩) (d.ps.length - 1 + 1) c8)).heap[q]? = some (.cells #[.slice (some ⟨b, o, none⟩) d.ts.length tc, .slice po d.ps.length pc] 25 (0, 0))) := (kp_set w8 qx 1 _).heap hq8 (.inl (by have := HB7.out; omega))
        have HW9 : Hid (Kp 0 0 w (w8.setCell ⟨qx, 1, none⟩ (.slice (some ⟨g8, 0, none⟩) (d.ps.length - 1 + 1) c8))) := hk8.step (kp_set w8 qx 1 _) fun j h1 h2 => .inl (by have := HB7.out; omega)
        have HO9 : Hid (OwnD w3.heap.size (w8.setCell ⟨qx, 1, none⟩ (.slice (some ⟨g8, 0, none⟩) (d.ps.length - 1 + 1) c8)) (.slice xto d.ts.length xtc) (.slice (some ⟨g8, 0, none⟩) (d.ps.length - 1 + 1) c8) ⟨d.ts, d.ps.dropLast ++ [⟨(d.ts.length : Int), 0, 1, 0, 2⟩]⟩) :=
          ⟨(HO10.out.t.ktag ht8 tag_tp tag_fp tag_mp).ktag (Ktag.of_set hx8 1 _) tag_td tag_fd tag_md, OwnS.ktag (fun h => h) (OwnS.flat (E := pjE) (x := Pj.mk (d.ts.length : Int) 0 1 0 2) HSP.out hown8 HLN.out rfl (fun h => h) (by exact rfl)) (Ktag.of_set hx8 1 _) tag_pd⟩
        clear hown8 hg8 ht8 hk8 hx8 hq8 hrow
        go_upto_region 16 with fail
        clear x1 fx
        generalize w8.setCell ⟨qx, 1, none⟩ (.slice (some ⟨g8, 0, none⟩) (d.ps.length - 1 + 1) c8) = w9' at HX9 HQ9 HW9 HO9 ⊢
        have a0 := blk_cell HQ9.out (k := 0) (u := .slice (some ⟨b, o, none⟩) d.ts.length tc) rfl
        have a1 := blk_cell HQ9.out (k := 1) (u := .slice po d.ps.length pc) rfl
        go_wp2_with fail
        refine (copyD_any d w9' _ _ (HD.out.keep0 HW9.out) HS.out).mono ?_
        rintro r w10 ⟨zt, zp, rfl, hown, hk⟩
        obtain ⟨zto, ztc, rfl⟩ : ∃ ao c, zt = .slice ao d.ts.length c := by
          obtain ⟨_, _, h, _⟩ := hown.t
          exact ownsRow_open h
        obtain ⟨zpo, zpc, rfl⟩ : ∃ ao c, zp = .slice ao d.ps.length c := by
          obtain ⟨_, h, _⟩ := hown.p
          exact ownsRow_open h
        have HO11 := Lib.hid hown
        have HW11 := Lib.hid hk
        clear hown hk a0 a1
        go_upto_region 17 with fail
        have hka : Kp 0 0 w10 (w10.alloc (.cells #[.slice zto d.ts.length ztc, .slice zpo d.ps.length zpc] 25)) := (Kp.refl _ _ _).alloc _
        have HZ12 := Lib.hid (blk_one w10 (.cells #[.slice zto d.ts.length ztc, .slice zpo d.ps.length zpc] 25))
        have HO12 := Lib.hid (HO11.out.keep0 hka)
        have HW12 := Lib.hid (HW11.out.trans hka)
        have HZB : Hid (w9'.heap.size ≤ w10.heap.size) := HW11.out.size
        clear hka HO11 HW11
        generalize w10.alloc (.cells #[.slice zto d.ts.length ztc, .slice zpo d.ps.length zpc] 25) = w11 at HZ12 HO12 HW12 ⊢
        generalize w10.heap.size = qz at HZ12 HZB ⊢
        obtain ⟨tg, ztc', zg, zc, e, zb, zlt, z1, z2, z3, zk, zo⟩ := HO12.out.kind HTM.out.1
        cases e
        have hzq : zg ≠ qz := fun h => by
          subst h
          have h3 := zk zg _ _ HZ12.out tag_fd.symm
          have h4 := blk_set HZ12.out 0 (.int .i64 0)
          rw [h3] at h4
          simp at h4
        have HO13 := Lib.hid zo
        have HLZ : Hid (qx < w9'.heap.size ∧ q < w9'.heap.size ∧ w9'.heap.size ≤ zg ∧ w.heap.size ≤ w9'.heap.size) := ⟨heap_lt HX9.out, heap_lt HQ9.out, zb, HW9.out.size⟩
        have hks := kp_set w11 zg 0 (.int .i64 0)
        have HX13 := Lib.hid (hks.heap (HW12.out.heap HX9.out (.inr (Nat.zero_le _))) (.inl (by have := HLZ.out; omega)))
        have HZ13 := Lib.hid (hks.heap HZ12.out (by omega))
        have HW13 : Hid (Kp 0 0 w (w11.setCell ⟨zg, 0, none⟩ (.int .i64 0))) := (HW9.out.trans HW12.out).step hks fun j h1 h2 => .inl (by have := HLZ.out; omega)
        have HXR : Hid (RdD (w11.setCell ⟨zg, 0, none⟩ (.int .i64 0)) (Iv w3.heap.size w9'.heap.size) (.slice xto d.ts.length xtc) (.slice (some ⟨g8, 0, none⟩) (d.ps.length - 1 + 1) c8) ⟨d.ts, d.ps.dropLast ++ [⟨(d.ts.length : Int), 0, 1, 0, 2⟩]⟩) := ((HO9.out.rd (Nat.le_refl _)).keep0 HW12.out).keep hks fun b hb => .inl (by have := HLZ.out; have := hb.2; omega)
        have z0 := blk_cell HZ12.out (k := 0) (u := .slice (some ⟨tg, 0, none⟩) d.ts.length ztc) rfl
        have hR0 : (((R.length + 1 : Nat) : Int) == 0) = false := by
          have : ¬ (((R.length + 1 : Nat) : Int) = 0) := by omega
          simpa using this
        clear zo zk hks
        go_upto_region 20 with fail
        clear z0 z1 z2 z3
        generalize w11.setCell ⟨zg, 0, none⟩ (.int .i64 0) = w13 at HX13 HZ13 HW13 HXR HO13 ⊢
        have hz8 : d.ps.length ≤ 8 := hty.2.2
        have HXC : Hid (∀ W, Kp 0 0 w13 W → Calls Tryd.prog 10 #[.agg #[.slice xto d.ts.length xtc, .slice (some ⟨g8, 0, none⟩) (d.ps.length - 1 + 1) c8]] W fun r w' => r = .returned (.int .i64 8) ∧ Kp 0 0 w13 w') := fun W hW => by
          have h := HC _ ⟨d.ts, d.ps.dropLast ++ [⟨(d.ts.length : Int), 0, 1, 0, 2⟩]⟩ W _ _ (HXR.out.keep0 hW) (Sc.fits_lost HFT.out (Sc.fits_new _ hty.2.1)) (Sc.short_lost HS.out hz8 _) (HPW.out _ (HW13.out.trans hW))
          rw [Sc.parts_lost HCK.out _ rfl] at h
          exact h.mono fun r w' h => ⟨h.1, hW.trans h.2⟩
        have hz := HC _ ⟨d.ts.set t ({ F with k := 0 } :: R), d.ps⟩ w13 _ _ (HO13.out.rd (Nat.le_refl _)) (Sc.fits_kind HFT.out HTM.out.1) (Sc.short_kind HS.out HTM.out.1) (HPW.out _ HW13.out)
        have hzz : ∃ e, (e = 2 ∨ e = 3) ∧ Calls Tryd.prog 10 #[.agg #[.slice (some ⟨tg, 0, none⟩) d.ts.length ztc, .slice zpo d.ps.length zpc]] w13 fun r w' => r = .returned (.int .i64 e) ∧ Kp 0 0 w13 w' := ⟨_, Sc.parts_kind HCK.out HTM.out.1, hz⟩
        clear hz
        obtain ⟨e, he, hz⟩ := hzz
        have HZC := Lib.hid hz
        have z0 := blk_cell HZ13.out (k := 0) (u := .slice (some ⟨tg, 0, none⟩) d.ts.length ztc) rfl
        have z1 := blk_cell HZ13.out (k := 1) (u := .slice zpo d.ps.length zpc) rfl
        clear hz
        go_wp2_with fail
        refine HZC.out.mono ?_
        rintro r w14 ⟨rfl, hk⟩
        have HK14 := Lib.hid hk
        have x0 := blk_cell (hk.heap HX13.out (.inr (Nat.zero_le _))) (k := 0) (u := .slice xto d.ts.length xtc) rfl
        have x1 := blk_cell (hk.heap HX13.out (.inr (Nat.zero_le _))) (k := 1) (u := .slice (some ⟨g8, 0, none⟩) (d.ps.length - 1 + 1) c8) rfl
        clear hk z0 z1
        rcases he with rfl | rfl
        all_goals
          go_wp2_with fail
          refine (HXC.out _ HK14.out).mono ?_
          rintro r w15 ⟨rfl, hk⟩
          have HK15 := Lib.hid (HW13.out.trans hk)
          clear hk
          go_wp2_with fail
          refine (HWK.out _ HK15.out).mono ?_
          rintro r w16 ⟨rfl, hk⟩
          go_wp2_with fail
          go_returns
          exact ⟨rfl, hk⟩

end Go.Proofs.YtdgeehcfdnokmaaDoor
