/-
  DeclBack as a contract.
-/
import Derived.Test.YtgokhagbknlfaaaDlMany
import Derived.Test.YtgokhagbknlfaaaDlRef3
namespace Go.Proofs.Ytgokhagbknlfaaa
open Go.RowKit
set_option maxRecDepth 100000

theorem none_rdD (w : World) (S : Nat → Prop) : RdD w S (.slice none 0 0) (.slice none 0 0) ⟨[], []⟩ := ⟨RdS.nil _ _ _ _, RdS.nil _ _ _ _⟩

set_option maxRecDepth 100000 in
set_option maxHeartbeats 8000000 in
theorem dback_any {P : World → Prop} (HP : DKeeps P) (HPU : DPutOk P) (HGE : DGetOk P) {S : Nat → Prop} {l2 h2 : Nat} (d : Dc) (B : List Int) (m : Nat) (w : World) (tv pv vb : Value) (hd : RdD w S tv pv d) (hf : Sc.Fits d) (hb : RdI .u8 l2 h2 w vb B) (hB : ∀ y ∈ B, 0 ≤ y ∧ y < 256) (hm : m < 256) (hp : P w) :
    Calls Try.prog 4 #[.agg #[tv, pv], vb, .int .u8 (m : Int)] w fun r w' => r = .returned (.bool true) ∧ Kp 0 0 w w' := by
  have HPW : Hid (∀ W, Kp 0 0 w W → P W) := fun W hW => HP w W hp hW
  have HD := Lib.hid hd
  have HBB := Lib.hid hb
  have HBY := Lib.hid hB
  obtain ⟨to, tc, rfl, _, _, _⟩ := hd.t.open
  obtain ⟨po, pc, rfl, _, _, _⟩ := hd.p.open
  obtain ⟨bo, cb, rfl, hb3, hb4, _⟩ := hb.open
  have HKN : Hid (∀ W, Kp 0 0 w W → Calls Try.prog 8 #[] W fun r w' => r = .returned (.bool true) ∧ Kp 0 0 w w') := fun W hW => (knownD_any HP HPU HGE W (HPW.out _ hW)).mono fun r w' h => ⟨h.1, hW.trans h.2⟩
  have HKA : Hid (Kp 0 0 w (w.alloc (.cells #[.slice to d.ts.length tc, .slice po d.ps.length pc] 25))) := (Kp.refl _ _ _).alloc _
  have HBA := Lib.hid (blk_one w (.cells #[.slice to d.ts.length tc, .slice po d.ps.length pc] 25))
  have HLG := Lib.hid (dlong_any d _ _ _ (hd.keep0 HKA.out))
  clear hd hb hB hp
  go_enter Try.func4, Try.ntmps4
  go_upto_region 1 with fail
  generalize w.alloc (.cells #[.slice to d.ts.length tc, .slice po d.ps.length pc] 25) = w0 at HKA HBA HLG ⊢
  generalize w.heap.size = pa at HBA ⊢
  have q0 := blk_cell HBA.out (k := 0) (u := .slice to d.ts.length tc) rfl
  have q1 := blk_cell HBA.out (k := 1) (u := .slice po d.ps.length pc) rfl
  go_wp2_with fail
  refine HLG.out.mono ?_
  rintro r w1 ⟨rfl, hk1⟩
  have HK1 := Lib.hid (HKA.out.trans hk1)
  have HBA1 := Lib.hid (hk1.heap HBA.out (.inr (Nat.zero_le _)))
  clear hk1 q0 q1 HLG HBA HKA
  cases hlg : Dl.long d with
  | true =>
    go_wp2_with fail
    refine (HKN.out w1 HK1.out).mono ?_
    rintro r w2 ⟨rfl, hk⟩
    go_wp2_with fail
    go_returns
    exact ⟨rfl, hk⟩
  | false =>
  have hsh := Dl.short_of hlg
  by_cases h21 : 4096 < B.length
  · have h21i : (4096 : Int) < (B.length : Int) := by omega
    go_wp2_with fail
    refine (HKN.out w1 HK1.out).mono ?_
    rintro r w2 ⟨rfl, hk⟩
    go_wp2_with fail
    go_returns
    exact ⟨rfl, hk⟩
  have h21i : ¬ (4096 : Int) < (B.length : Int) := by omega
  have HP1 : Hid (∀ W, Kp 0 0 w W → Calls Try.prog 10 #[.agg #[.slice to d.ts.length tc, .slice po d.ps.length pc]] W fun r w' => (∃ o c, r = .returned (.tuple #[.slice o (Dl.put d).1.length c, .int .i64 (Dl.put d).2]) ∧ RdI .u8 0 w'.heap.size w' (.slice o (Dl.put d).1.length c) (Dl.put d).1) ∧ Kp 0 0 W w') := fun W hW => by
    refine (HPU _ d W _ _ (HD.out.keep0 hW) hf (by have := hsh.1; omega) (by have := hsh.2.1; omega) (fun t ht => ⟨by have := (hsh.2.2 t ht).1; omega, fun f hf => (hsh.2.2 t ht).2 f hf⟩) (HPW.out _ hW)).mono ?_
    rintro r w' ⟨v, rfl, ho, hk⟩
    obtain ⟨o, c, rfl, _, _, _⟩ := ho.rd.open
    exact ⟨⟨o, c, rfl, ho.rd.wide (Nat.zero_le _) (Nat.le_refl _)⟩, hk⟩
  have HG1 : Hid (∀ W (L : List Int) v hi, Kp 0 0 w W → RdI .u8 0 hi W v L → (∀ y ∈ L, 0 ≤ y ∧ y < 256) → L.length ≤ 100000 → Calls Try.prog 14 #[v] W fun r w' => (∃ to tc po pc, r = .returned (.tuple #[.agg #[.slice to (Dl.get L).1.ts.length tc, .slice po (Dl.get L).1.ps.length pc], .int .i64 (Dl.get L).2]) ∧ RdD w' (Iv W.heap.size w'.heap.size) (.slice to (Dl.get L).1.ts.length tc) (.slice po (Dl.get L).1.ps.length pc) (Dl.get L).1) ∧ Kp 0 0 W w') := fun W L v hi hW hr hy hl => by
    refine (HGE _ _ L W v hr hy hl (HPW.out _ hW)).mono ?_
    rintro r w' ⟨tv, pv, rfl, hrd, hk⟩
    obtain ⟨to, tc, rfl, _, _, _⟩ := hrd.t.open
    obtain ⟨po, pc, rfl, _, _, _⟩ := hrd.p.open
    exact ⟨⟨to, tc, po, pc, rfl, hrd⟩, hk⟩
  clear hlg hsh
  have q0 := blk_cell HBA1.out (k := 0) (u := .slice to d.ts.length tc) rfl
  have q1 := blk_cell HBA1.out (k := 1) (u := .slice po d.ps.length pc) rfl
  cases hmy : Dl.many d with
  | true =>
    have hpe : Dl.put d = ([], 3) := if_pos hmy
    rw [hpe] at HP1
    simp only [List.length_nil] at HP1
    clear hmy hpe
    go_wp2_with fail
    refine (HP1.out _ HK1.out).mono ?_
    rintro r w2 ⟨⟨o1, c1, rfl, _⟩, hk⟩
    have HKT := Lib.hid (HK1.out.trans hk)
    clear hk q0 q1 HBA1
    go_wp2_with fail
    refine (HG1.out _ B _ _ HKT.out ((HBB.out.wide (Nat.zero_le _) (Nat.le_refl _)).keep0 HKT.out) HBY.out (by omega)).mono ?_
    by_cases hz : Dl.err B = 0
    · obtain ⟨bk1, bk2⟩ := Dl.back HBY.out hz
      have hgt : Dl.get B = ((Dl.dcR (B, 0)).1, 0) := if_pos hz
      have hpt : Dl.put (Dl.dcR (B, 0)).1 = (B, 0) := by
        unfold Dl.put
        rw [if_neg (by rw [Dl.many_of bk2]; decide), ← bk1]
      rw [hgt]
      simp only
      clear bk1 hgt
      generalize (Dl.dcR (B, 0)).1 = y at *
      rintro r u1 ⟨⟨to', tc', po', pc', rfl, hr⟩, hk⟩
      have HU1 := Lib.hid (HKT.out.trans hk)
      have HYQ := Lib.hid hr
      have HXQ := Lib.hid (blk_one u1 (.cells #[.slice to' y.ts.length tc', .slice po' y.ps.length pc'] 25))
      have HKU : Hid (Kp 0 0 u1 (u1.alloc (.cells #[.slice to' y.ts.length tc', .slice po' y.ps.length pc'] 25))) := (Kp.refl _ _ _).alloc _
      clear hk hr
      go_upto_region 15 with fail
      generalize u1.alloc (.cells #[.slice to' y.ts.length tc', .slice po' y.ps.length pc'] 25) = u2 at HKU HXQ ⊢
      generalize u1.heap.size = px at HXQ ⊢
      have x0 := blk_cell HXQ.out (k := 0) (u := .slice to' y.ts.length tc') rfl
      have x1 := blk_cell HXQ.out (k := 1) (u := .slice po' y.ps.length pc') rfl
      have hm2 := HPU _ y u2 _ _ (HYQ.out.keep0 HKU.out) (Dl.fits_of bk2) (by have := bk2.1.1; omega) (by have := bk2.2.1; omega) (fun t ht => ⟨by have := (bk2.1.2 t ht).1; omega, fun f hf => by have := ((bk2.1.2 t ht).2 f hf).2; omega⟩) (HPW.out _ (HU1.out.trans HKU.out))
      rw [hpt] at hm2
      have HM2 := Lib.hid hm2
      clear hm2
      go_wp2_with fail
      refine HM2.out.mono ?_
      rintro r u3 ⟨vc, rfl, hown, hk⟩
      have HC3 := Lib.hid hown.rd
      have HU3 := Lib.hid ((HU1.out.trans HKU.out).trans hk)
      obtain ⟨oc, cc, rfl, _, _, _⟩ := hown.rd.open
      clear hown hk x0 x1
      go_wp2_with fail
      refine (same_yes u3 _ _ B HC3.out (HBB.out.keep0 HU3.out)).mono ?_
      rintro r u4 ⟨rfl, hk⟩
      have HU4 := Lib.hid (HU3.out.trans hk)
      clear hk
      go_wp2_with fail
      refine (HKN.out u4 HU4.out).mono ?_
      rintro r u5 ⟨rfl, hk⟩
      go_wp2_with fail
      go_returns
      exact ⟨rfl, hk⟩
    · have hgt : Dl.get B = (⟨[], []⟩, Dl.err B) := if_neg hz
      have hzb : (Dl.err B != 0) = true := bne_iff_ne.2 hz
      rw [hgt]
      simp only [List.length_nil]
      clear hgt hz
      generalize Dl.err B = eb at *
      rintro r u1 ⟨⟨to', tc', po', pc', rfl, hr⟩, hk⟩
      have HU1 := Lib.hid (HKT.out.trans hk)
      have HYQ := Lib.hid hr
      have HXQ := Lib.hid (blk_one u1 (.cells #[.slice to' 0 tc', .slice po' 0 pc'] 25))
      have HKU : Hid (Kp 0 0 u1 (u1.alloc (.cells #[.slice to' 0 tc', .slice po' 0 pc'] 25))) := (Kp.refl _ _ _).alloc _
      clear hk hr
      go_upto_region 15 with fail
      generalize u1.alloc (.cells #[.slice to' 0 tc', .slice po' 0 pc'] 25) = u2 at HKU HXQ ⊢
      generalize u1.heap.size = px at HXQ ⊢
      have x0 := blk_cell HXQ.out (k := 0) (u := .slice to' 0 tc') rfl
      have x1 := blk_cell HXQ.out (k := 1) (u := .slice po' 0 pc') rfl
      have HSD := Lib.hid (sameD_yes ⟨[], []⟩ u2 _ _ _ _ (HYQ.out.keep0 HKU.out) (none_rdD u2 (fun _ => True)))
      go_wp2_with fail
      refine HSD.out.mono ?_
      rintro r u4 ⟨rfl, hk⟩
      have HU4 := Lib.hid ((HU1.out.trans HKU.out).trans hk)
      clear hk x0 x1
      go_wp2_with fail
      refine (HKN.out u4 HU4.out).mono ?_
      rintro r u5 ⟨rfl, hk⟩
      go_wp2_with fail
      go_returns
      exact ⟨rfl, hk⟩
  | false =>
    have hok := Dl.ok_of hf hmy
    have hpe : Dl.put d = (Ev.encs (Dl.nums d), 0) := if_neg (by rw [hmy]; decide)
    rw [hpe] at HP1
    have hxl := (Ev.encs_len (i64s_dnums hok)).2
    have hnl := dnums_len hok
    have hln := Dl.nums_pos d
    have HXB : Hid (∀ y ∈ Ev.encs (Dl.nums d), 0 ≤ y ∧ y < 256) := Ev.encs_range (i64s_dnums hok)
    have GX1 := Lib.hid (Dl.get_put hok)
    have GX2 := Lib.hid (Dl.get_more hok (m : Int))
    have GX3 := Lib.hid (Dl.get_less hok)
    have hx5 : (Ev.encs (Dl.nums d)).length ≤ 45000 := by omega
    clear hpe hok hmy hxl hnl
    generalize Ev.encs (Dl.nums d) = X at *
    simp only at HP1
    go_wp2_with fail
    refine (HP1.out _ HK1.out).mono ?_
    rintro r w2 ⟨⟨o1, c1, rfl, hr⟩, hk⟩
    have HX2 := Lib.hid hr
    have HK2 := Lib.hid (HK1.out.trans hk)
    have HBA2 := Lib.hid (hk.heap HBA1.out (.inr (Nat.zero_le _)))
    obtain ⟨_, _, he', hx1, hx2, _⟩ := hr.open
    cases he'
    clear hk hr q0 q1 HBA1
    go_wp2_with fail
    refine (HG1.out _ X _ _ HK2.out HX2.out HXB.out (by omega)).mono ?_
    rw [GX1.out]
    rintro r w3 ⟨⟨oy, cy, py, qy, rfl, hr⟩, hk⟩
    have HK3 : Hid (Kp 0 0 w (w3.alloc (.cells #[.slice oy d.ts.length cy, .slice py d.ps.length qy] 25))) := (HK2.out.trans hk).alloc _
    have HX3 := Lib.hid ((HX2.out.keep0 hk).keep0 ((Kp.refl 0 0 w3).alloc (.cells #[.slice oy d.ts.length cy, .slice py d.ps.length qy] 25)))
    have HBA3 := Lib.hid ((hk.alloc (.cells #[.slice oy d.ts.length cy, .slice py d.ps.length qy] 25)).heap HBA2.out (.inr (Nat.zero_le _)))
    have HY3 := Lib.hid (hr.keep0 ((Kp.refl 0 0 w3).alloc (.cells #[.slice oy d.ts.length cy, .slice py d.ps.length qy] 25)))
    have HBY3 := Lib.hid (blk_one w3 (.cells #[.slice oy d.ts.length cy, .slice py d.ps.length qy] 25))
    clear hk hr HX2 HBA2
    go_upto_region 8 with fail
    generalize w3.alloc (.cells #[.slice oy d.ts.length cy, .slice py d.ps.length qy] 25) = w4 at HK3 HX3 HBA3 HY3 HBY3 ⊢
    generalize w3.heap.size = pb at HBY3 ⊢
    -- append(append([]byte{}, x...), more)
    have HE0 := Lib.hid (own_lit (w := w4) (base := w4.heap.size) (n := 0) #[] 5 (Nat.le_refl _) rfl (by decide))
    obtain ⟨i0, hi, hz0, hz1, hz2⟩ := info_parts info_u8
    go_wp2_with (at_builtin; refine wpList_app rfl _ _ 26 rfl w4.heap.size 5 .u8 1 Try.underlying26 info_u8 _ 0 [] rfl HE0.out _ rfl X (HX3.out.keep0 ((Kp.refl _ _ _).alloc _)) ?c3 ?c4 ?c5 ?_)
    case c3 => unfold maxLen; omega
    case c4 => omega
    try (case c5 => simp)
    intro v5 w5 hown hg
    have HK45 : Hid (Kp 0 0 w4 w5) := ((Kp.refl 0 0 w4).alloc _).grown hg fun j hj => .inl (by simp only [Value.ownBlock, Option.some.injEq] at hj; omega)
    have HO5 := Lib.hid hown
    have HS5 : Hid (w4.heap.size ≤ w5.heap.size) := HK45.out.size
    clear hown hg HE0
    go_wp2_with (at_builtin; refine wpList_append_own _ rfl _ _ 26 rfl w4.heap.size 5 i0 (.int .u8 0) 1 1 Try.underlying26 hi hz0 hz1 hz2 rfl (by decide) _ _ _ rfl (HO5.out.alloc _) ⟨w5.heap.size, 0, none⟩ 1 1 [.int .u8 (m : Int)] rfl rfl (cell_one _ _ _) (by simp [Value.oneCell']) ?e3 ?e4 ?e5 ?_)
    case e3 => unfold maxLen; omega
    case e4 => omega
    case e5 => have := HS5.out; simp; omega
    intro v6 w6 hown hg _
    have HK46 : Hid (Kp 0 0 w4 w6) := (HK45.out.alloc _).grown hg fun j hj => .inl (HO5.out.lt j hj).1
    have HXM : Hid (RdI .u8 0 w6.heap.size w6 v6 (X ++ [(m : Int)])) := (OwnI.of_rowN (l := X ++ [(m : Int)]) (by rw [List.map_append]; exact hown) (by simp)).rd.wide (Nat.zero_le _) (Nat.le_refl _)
    have HK6 := Lib.hid (HK3.out.trans HK46.out)
    have HX6 := Lib.hid (HX3.out.keep0 HK46.out)
    have HY6 := Lib.hid (HY3.out.keep0 HK46.out)
    have HBA6 := Lib.hid (HK46.out.heap HBA3.out (.inr (Nat.zero_le _)))
    have HBY6 := Lib.hid (HK46.out.heap HBY3.out (.inr (Nat.zero_le _)))
    clear hown hg HO5 HS5 HK45 HK46 HX3 HY3 HBA3 HBY3 HK3
    obtain ⟨o4, c4, rfl, _, _, _⟩ := HXM.out.open
    have hml : (X ++ [(m : Int)]).length = X.length + 1 := by simp
    rw [hml] at HXM ⊢
    go_wp2_with fail
    refine (HG1.out _ (X ++ [(m : Int)]) _ _ HK6.out HXM.out (fun y hy => by
      rcases List.mem_append.1 hy with h | h
      · exact HXB.out y h
      · simp at h; omega) (by rw [hml]; omega)).mono ?_
    rw [GX2.out]
    simp only [List.length_nil]
    rintro r w7 ⟨⟨oz, cz, pz, qz, rfl, _⟩, hk⟩
    have hka := hk.alloc (.cells #[.slice oz 0 cz, .slice pz 0 qz] 25)
    have HK7 := Lib.hid (HK6.out.trans hka)
    have HX7 := Lib.hid (HX6.out.keep0 hka)
    have HY7 := Lib.hid (HY6.out.keep0 hka)
    have HBA7 := Lib.hid (hka.heap HBA6.out (.inr (Nat.zero_le _)))
    have HBY7 := Lib.hid (hka.heap HBY6.out (.inr (Nat.zero_le _)))
    clear hk hka HXM HX6 HY6 HBA6 HBY6 HK6
    go_upto_region 9 with fail
    generalize w7.alloc (.cells #[.slice oz 0 cz, .slice pz 0 qz] 25) = w8 at HK7 HX7 HY7 HBA7 HBY7 ⊢
    generalize w7.heap.size = pz7
    have y0 := blk_cell HBY7.out (k := 0) (u := .slice oy d.ts.length cy) rfl
    have y1 := blk_cell HBY7.out (k := 1) (u := .slice py d.ps.length qy) rfl
    have q0 := blk_cell HBA7.out (k := 0) (u := .slice to d.ts.length tc) rfl
    have q1 := blk_cell HBA7.out (k := 1) (u := .slice po d.ps.length pc) rfl
    have hX1 : ((X.length : Int) == 0) = false := beq_eq_false_iff_ne.2 (by omega)
    have hX0 : ¬ X = [] := fun h => by rw [h] at hln; simp at hln
    go_wp2_with fail
    refine (sameD_yes d w8 _ _ _ _ HY7.out (HD.out.keep0 HK7.out)).mono ?_
    rintro r w9 ⟨rfl, hk⟩
    have HX9 := Lib.hid (HX7.out.keep0 hk)
    have HK9 := Lib.hid (HK7.out.trans hk)
    clear hk y0 y1 q0 q1 HX7 HY7 HBA7 HBY7 HK7
    go_wp2_with fail
    refine (HG1.out _ (X.take (X.length - 1)) _ _ HK9.out (HX9.out.pre (by omega)) (fun y hy => HXB.out y (List.mem_of_mem_take hy)) (by rw [List.length_take]; omega)).mono ?_
    rw [GX3.out]
    simp only [List.length_nil]
    rintro r w10 ⟨⟨oh, ch, ph, qh, rfl, _⟩, hk⟩
    have HKT : Hid (Kp 0 0 w (w10.alloc (.cells #[.slice oh 0 ch, .slice ph 0 qh] 25))) := (HK9.out.trans hk).alloc _
    clear hk HX9 HK9
    go_upto_region 12 with fail
    generalize w10.alloc (.cells #[.slice oh 0 ch, .slice ph 0 qh] 25) = w11 at HKT ⊢
    go_wp2_with fail
    refine (HG1.out _ B _ _ HKT.out ((HBB.out.wide (Nat.zero_le _) (Nat.le_refl _)).keep0 HKT.out) HBY.out (by omega)).mono ?_
    by_cases hz : Dl.err B = 0
    · obtain ⟨bk1, bk2⟩ := Dl.back HBY.out hz
      have hgt : Dl.get B = ((Dl.dcR (B, 0)).1, 0) := if_pos hz
      have hpt : Dl.put (Dl.dcR (B, 0)).1 = (B, 0) := by
        unfold Dl.put
        rw [if_neg (by rw [Dl.many_of bk2]; decide), ← bk1]
      rw [hgt]
      simp only
      clear bk1 hgt
      generalize (Dl.dcR (B, 0)).1 = y at *
      rintro r u1 ⟨⟨to', tc', po', pc', rfl, hr⟩, hk⟩
      have HU1 := Lib.hid (HKT.out.trans hk)
      have HYQ := Lib.hid hr
      have HXQ := Lib.hid (blk_one u1 (.cells #[.slice to' y.ts.length tc', .slice po' y.ps.length pc'] 25))
      have HKU : Hid (Kp 0 0 u1 (u1.alloc (.cells #[.slice to' y.ts.length tc', .slice po' y.ps.length pc'] 25))) := (Kp.refl _ _ _).alloc _
      clear hk hr
      go_upto_region 15 with fail
      generalize u1.alloc (.cells #[.slice to' y.ts.length tc', .slice po' y.ps.length pc'] 25) = u2 at HKU HXQ ⊢
      generalize u1.heap.size = px at HXQ ⊢
      have x0 := blk_cell HXQ.out (k := 0) (u := .slice to' y.ts.length tc') rfl
      have x1 := blk_cell HXQ.out (k := 1) (u := .slice po' y.ps.length pc') rfl
      have hm2 := HPU _ y u2 _ _ (HYQ.out.keep0 HKU.out) (Dl.fits_of bk2) (by have := bk2.1.1; omega) (by have := bk2.2.1; omega) (fun t ht => ⟨by have := (bk2.1.2 t ht).1; omega, fun f hf => by have := ((bk2.1.2 t ht).2 f hf).2; omega⟩) (HPW.out _ (HU1.out.trans HKU.out))
      rw [hpt] at hm2
      have HM2 := Lib.hid hm2
      clear hm2
      go_wp2_with fail
      refine HM2.out.mono ?_
      rintro r u3 ⟨vc, rfl, hown, hk⟩
      have HC3 := Lib.hid hown.rd
      have HU3 := Lib.hid ((HU1.out.trans HKU.out).trans hk)
      obtain ⟨oc, cc, rfl, _, _, _⟩ := hown.rd.open
      clear hown hk x0 x1
      go_wp2_with fail
      refine (same_yes u3 _ _ B HC3.out (HBB.out.keep0 HU3.out)).mono ?_
      rintro r u4 ⟨rfl, hk⟩
      have HU4 := Lib.hid (HU3.out.trans hk)
      clear hk
      go_wp2_with fail
      refine (HKN.out u4 HU4.out).mono ?_
      rintro r u5 ⟨rfl, hk⟩
      go_wp2_with fail
      go_returns
      exact ⟨rfl, hk⟩
    · have hgt : Dl.get B = (⟨[], []⟩, Dl.err B) := if_neg hz
      have hzb : (Dl.err B != 0) = true := bne_iff_ne.2 hz
      rw [hgt]
      simp only [List.length_nil]
      clear hgt hz
      generalize Dl.err B = eb at *
      rintro r u1 ⟨⟨to', tc', po', pc', rfl, hr⟩, hk⟩
      have HU1 := Lib.hid (HKT.out.trans hk)
      have HYQ := Lib.hid hr
      have HXQ := Lib.hid (blk_one u1 (.cells #[.slice to' 0 tc', .slice po' 0 pc'] 25))
      have HKU : Hid (Kp 0 0 u1 (u1.alloc (.cells #[.slice to' 0 tc', .slice po' 0 pc'] 25))) := (Kp.refl _ _ _).alloc _
      clear hk hr
      go_upto_region 15 with fail
      generalize u1.alloc (.cells #[.slice to' 0 tc', .slice po' 0 pc'] 25) = u2 at HKU HXQ ⊢
      generalize u1.heap.size = px at HXQ ⊢
      have x0 := blk_cell HXQ.out (k := 0) (u := .slice to' 0 tc') rfl
      have x1 := blk_cell HXQ.out (k := 1) (u := .slice po' 0 pc') rfl
      have HSD := Lib.hid (sameD_yes ⟨[], []⟩ u2 _ _ _ _ (HYQ.out.keep0 HKU.out) (none_rdD u2 (fun _ => True)))
      go_wp2_with fail
      refine HSD.out.mono ?_
      rintro r u4 ⟨rfl, hk⟩
      have HU4 := Lib.hid ((HU1.out.trans HKU.out).trans hk)
      clear hk x0 x1
      go_wp2_with fail
      refine (HKN.out u4 HU4.out).mono ?_
      rintro r u5 ⟨rfl, hk⟩
      go_wp2_with fail
      go_returns
      exact ⟨rfl, hk⟩

end Go.Proofs.Ytgokhagbknlfaaa
