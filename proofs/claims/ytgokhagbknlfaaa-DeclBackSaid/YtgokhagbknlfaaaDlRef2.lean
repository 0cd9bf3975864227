/-
  The document's answer for package decl: numbers.
-/
import Derived.Test.YtgokhagbknlfaaaDlRef
import Derived.Deep.Cut
import Derived.Deep.RegionHeld3
namespace Go.Proofs.Ytgokhagbknlfaaa
open Go.RowKit
set_option maxRecDepth 100000

namespace Dl
theorem flat_len {α : Type} {en : α → List Int} {B : Nat} : ∀ {l : List α}, (∀ x ∈ l, (en x).length ≤ B) → (l.flatMap en).length ≤ l.length * B
  | [], _ => by simp
  | x :: l, h => by
    have h1 := h x (List.mem_cons_self ..)
    have h2 := flat_len (l := l) fun y hy => h y (List.mem_cons_of_mem _ hy)
    rw [List.flatMap_cons, List.length_append, List.length_cons, Nat.add_mul, Nat.one_mul]
    omega
theorem flat_snoc {α : Type} (en : α → List Int) {l : List α} {k : Nat} {x : α} (h : l[k]? = some x) : (l.take (k + 1)).flatMap en = (l.take k).flatMap en ++ en x := by
  rw [take_snoc h, List.flatMap_append, List.flatMap_cons, List.flatMap_nil, List.append_nil]
theorem lenM (m : Mv) : (enM m).length ≤ 4 := Nat.le_refl _
theorem lenF {f : Fl} (h : f.ms.length ≤ 16) : (enF f).length ≤ 68 := by
  have := flat_len (en := enM) (B := 4) (l := f.ms) fun x _ => lenM x
  unfold enF enB
  simp only [List.length_append, List.length_cons, List.length_nil]
  omega
theorem lenT {t : List Fl} (h : t.length ≤ 8) (hf : ∀ f ∈ t, f.ms.length ≤ 16) : (enT t).length ≤ 545 := by
  have := flat_len (en := enF) (B := 68) (l := t) fun x hx => lenF (hf x hx)
  unfold enT
  simp only [List.length_cons]
  omega
end Dl

theorem info_int : (Try.prog.info? 3).map (fun i => (i.zero, i.size, i.bytes)) = some (some (.int .i64 0), 1, 8) := by kernel_rfl

set_option maxRecDepth 100000 in
set_option maxHeartbeats 8000000 in
theorem refNumbers_any {S : Nat → Prop} (d : Dc) (w : World) (tv pv : Value) (hd : RdD w S tv pv d) (hok : Dl.many d = false) :
    Calls Try.prog 24 #[.agg #[tv, pv]] w fun r w' => ∃ v, r = .returned v ∧ OwnI .i64 3 w.heap.size w'.heap.size w' v (Dl.nums d) ∧ Kp 0 0 w w' := by
  obtain ⟨to, tc, rfl, ht1, ht2, htc⟩ := hd.t.open
  obtain ⟨po, pc, rfl, hp1, hp2, hpc⟩ := hd.p.open
  have hnm : ¬ (8 < d.ts.length ∨ 8 < d.ps.length ∨ d.ts.any Dl.manyT = true) := fun h => by
    rw [(dmany_parts d).2 h] at hok
    cases hok
  have hl8 : d.ts.length ≤ 8 := by omega
  have hp8 : d.ps.length ≤ 8 := by omega
  have HTS : Hid (∀ T ∈ d.ts, T.length ≤ 8 ∧ ∀ f ∈ T, f.ms.length ≤ 16) := by
    intro T hT
    have hm : Dl.manyT T = false := by
      rw [Bool.eq_false_iff]
      exact fun h => hnm (.inr (.inr (List.any_eq_true.2 ⟨T, hT, h⟩)))
    unfold Dl.manyT at hm
    simp only [Bool.or_eq_false_iff, decide_eq_false_iff_not, List.any_eq_false, Nat.not_lt] at hm
    refine ⟨hm.1, fun f hf => ?_⟩
    have h5 := hm.2 f hf
    unfold Dl.manyF at h5
    simpa using h5
  have HTC := Lib.hid htc
  have HPC := Lib.hid hpc
  clear hd htc hpc hok hnm ht1 ht2 hp1 hp2
  have HK1 : Hid (Kp 0 0 w (w.alloc (.cells #[.slice to d.ts.length tc, .slice po d.ps.length pc] 25))) := (Kp.refl _ _ _).alloc _
  have HQ := Lib.hid (blk_one w (.cells #[.slice to d.ts.length tc, .slice po d.ps.length pc] 25))
  go_enter Try.func24, Try.ntmps24
  go_upto_region 1 with fail
  generalize w.alloc (.cells #[.slice to d.ts.length tc, .slice po d.ps.length pc] 25) = w1 at HK1 HQ ⊢
  have HQS : Hid (w.heap.size < w1.heap.size) := heap_lt HQ.out
  generalize hq : w.heap.size = q at HQ HQS ⊢
  have HQE := Lib.hid hq
  clear hq
  have HT1 := Lib.hid (HTC.out.keep0 tyE_good HK1.out)
  have HP1 := Lib.hid (HPC.out.keep0 pjE_good HK1.out)
  clear HTC HPC
  have q00 := blk_cell HQ.out (k := 0) (u := .slice to d.ts.length tc) rfl
  have HO1 : Hid (OwnI .i64 3 w1.heap.size (w1.alloc (.cells #[.int .i64 (d.ts.length : Int)] 3)).heap.size (w1.alloc (.cells #[.int .i64 (d.ts.length : Int)] 3)) (.slice (some ⟨w1.heap.size, 0, none⟩) 1 1) [(d.ts.length : Int)]) := OwnI.of_rowN (n := 1) (own_lit (w := w1) (base := w1.heap.size) (n := 1) #[.int .i64 (d.ts.length : Int)] 3 (Nat.le_refl _) rfl (by decide)) rfl
  have HKA : Hid (Kp 0 0 w1 (w1.alloc (.cells #[.int .i64 (d.ts.length : Int)] 3))) := (Kp.refl _ _ _).alloc _
  have HX0 : Hid ((d.ts.length : Int) :: (d.ts.take 0).flatMap Dl.enT = [(d.ts.length : Int)]) := rfl
  go_upto_region 2 with fail
  clear q00
  generalize w1.alloc (.cells #[.int .i64 (d.ts.length : Int)] 3) = w2 at HO1 HKA ⊢
  generalize hbs : w1.heap.size = bs at HO1 HQS ⊢
  have HBE := Lib.hid hbs
  clear hbs
  go_wp2_with fail
  go_loopw [3, 4, 5, 6, 7, 8] (fun v i _ _ _ _ wr => ∃ k : Nat, k ≤ d.ts.length ∧ i = .int .i64 k ∧ OwnI .i64 3 bs wr.heap.size wr v ((d.ts.length : Int) :: (d.ts.take k).flatMap Dl.enT) ∧ Kp 0 0 w1 wr) (fun _ i _ _ _ _ _ => d.ts.length - (intOf i).toNat)
  case atStart => exact ⟨0, Nat.zero_le _, rfl, HO1.out, HKA.out⟩
  case round =>
    obtain ⟨i, hi, rfl, hown, hkp⟩ := hrel
    have HKR := Lib.hid hkp
    have HOR := Lib.hid hown
    have hxl : ((d.ts.length : Int) :: (d.ts.take i).flatMap Dl.enT).length ≤ 4400 := by
      have := Dl.flat_len (en := Dl.enT) (B := 545) (l := d.ts.take i) fun x hx => Dl.lenT (HTS.out x (List.mem_of_mem_take hx)).1 (HTS.out x (List.mem_of_mem_take hx)).2
      rw [List.length_take] at this
      rw [List.length_cons]
      omega
    obtain ⟨xo, xc, rfl, _, _, _⟩ := hown.rd.open
    clear hown hkp
    have hq := HKR.out.heap HQ.out (.inr (Nat.zero_le _))
    have HQR := Lib.hid hq
    by_cases hlt : i < d.ts.length
    · obtain ⟨T, hT⟩ : ∃ T, d.ts[i]? = some T := ⟨_, List.getElem?_eq_getElem hlt⟩
      obtain ⟨b, o, fo, fc, rfl, hb, c1, hf1, hf2, hf⟩ := ty_at HT1.out hT
      have HXN : Hid ((d.ts.length : Int) :: (d.ts.take (i + 1)).flatMap Dl.enT = ((d.ts.length : Int) :: (d.ts.take i).flatMap Dl.enT) ++ ((T.length : Int) :: T.flatMap Dl.enF)) := by
        show _ = _
        rw [Dl.flat_snoc _ hT]
        rfl
      have HTT := Lib.hid (HTS.out T (List.mem_of_getElem? hT))
      have hT8 := HTT.out.1
      generalize (d.ts.length : Int) :: (d.ts.take i).flatMap Dl.enT = X at HOR hxl HXN ⊢
      have q00 := blk_cell hq (k := 0) (u := .slice (some ⟨b, o, none⟩) d.ts.length tc) rfl
      have c1 := HKR.out.cell c1 (.inr (Nat.zero_le _))
      have HF := Lib.hid hf
      have i0 : (0 : Int) ≤ (i : Int) := Int.natCast_nonneg _
      have i1 : (i : Int) < (d.ts.length : Int) := by omega
      have HSB : Hid (bs ≤ wr.heap.size) := by have := HKR.out.size; have := HBE.out; show _ ≤ _; omega
      clear hT hf hf1 hf2 hq
      have HL := Lib.hid (lit_rd .i64 3 wr [(T.length : Int)] (by show 1 ≤ maxLen; decide))
      go_wp2_with (at_builtin; refine wpList_app rfl _ _ 56 rfl bs 3 .i64 8 Try.underlying56 info_int _ X.length (X.map (.int .i64)) rfl (HOR.out.1.alloc _) _ rfl [(T.length : Int)] HL.out ?c3 ?c4 ?c5 ?_)
      case c3 => show X.length + 1 ≤ maxLen; unfold maxLen; omega
      case c4 => show (X.length + 1) * 8 ≤ _; omega
      case c5 => have := HSB.out; simp; omega
      intro v3 w3 hown3 hg3
      have HK3 : Hid (Kp 0 0 w1 w3) := (HKR.out.alloc _).grown hg3 fun j hj => .inl (by have := (HOR.out.1.lt j hj).1; have := HBE.out; omega)
      have HO3 : Hid (OwnI .i64 3 bs w3.heap.size w3 v3 (X ++ ((T.length : Int) :: (T.take 0).flatMap Dl.enF))) := OwnI.of_rowN (n := X.length + 1) (by
        rw [List.map_append]
        exact hown3) (by simp)
      clear hown3 hg3 q00 c1 HL HOR HQR HKR
      go_wp2_with fail
      generalize w3 = wm at *
      go_loopw [3, 6, 7, 8] (fun v k _ _ wx => ∃ n : Nat, n ≤ T.length ∧ k = .int .i64 n ∧ OwnI .i64 3 bs wx.heap.size wx v (X ++ ((T.length : Int) :: (T.take n).flatMap Dl.enF)) ∧ Kp 0 0 w1 wx) (fun _ k _ _ _ => T.length - (intOf k).toNat)
      case atStart => exact ⟨0, Nat.zero_le _, rfl, HO3.out, HK3.out⟩
      case round =>
        obtain ⟨k, hk, rfl, hown, hkp⟩ := hrel
        have HKR := Lib.hid hkp
        have HOR := Lib.hid hown
        have hyl : (X ++ ((T.length : Int) :: (T.take k).flatMap Dl.enF)).length ≤ 5000 := by
          have := Dl.flat_len (en := Dl.enF) (B := 68) (l := T.take k) fun x hx => Dl.lenF (HTT.out.2 x (List.mem_of_mem_take hx))
          rw [List.length_take] at this
          rw [List.length_append, List.length_cons]
          omega
        obtain ⟨yo, yc, rfl, _, _, _⟩ := hown.rd.open
        have HSB : Hid (bs ≤ wr.heap.size) := by have := HKR.out.size; have := HBE.out; show _ ≤ _; omega
        clear hown hkp
        by_cases hkt : k < T.length
        · obtain ⟨F, hF⟩ : ∃ F, T[k]? = some F := ⟨_, List.getElem?_eq_getElem hkt⟩
          obtain ⟨b2, o2, mo, mc, rfl, hb2, g0, g1, g2, g3, hm1, hm2, hms⟩ := fl_at HF.out.cl hF
          have HYN : Hid (X ++ ((T.length : Int) :: (T.take (k + 1)).flatMap Dl.enF) = (X ++ ((T.length : Int) :: (T.take k).flatMap Dl.enF)) ++ Dl.enF F) := by
            show _ = _
            rw [Dl.flat_snoc _ hF, ← List.cons_append, List.append_assoc]
          have HEF : Hid (Dl.enF F = [F.k, F.p, if F.b then 1 else 0, (F.ms.length : Int)] ++ F.ms.flatMap Dl.enM) := rfl
          have hm16 := HTT.out.2 F (List.mem_of_getElem? hF)
          generalize X ++ ((T.length : Int) :: (T.take k).flatMap Dl.enF) = Y at HOR hyl HYN ⊢
          have HG : Hid (∀ W, Kp 0 0 w1 W → W.cell? ⟨b2, o2 + k * 4, none⟩ = some (.int .i64 F.k) ∧ W.cell? ⟨b2, o2 + k * 4 + 1, none⟩ = some (.int .i64 F.p) ∧ W.cell? ⟨b2, o2 + k * 4 + 2, none⟩ = some (.bool F.b) ∧ W.cell? ⟨b2, o2 + k * 4 + 3, none⟩ = some (.slice mo F.ms.length mc)) := fun W hW =>
            ⟨hW.cell g0 (.inr (Nat.zero_le _)), hW.cell g1 (.inr (Nat.zero_le _)), hW.cell g2 (.inr (Nat.zero_le _)), hW.cell g3 (.inr (Nat.zero_le _))⟩
          have HM := Lib.hid hms.cl
          have k0 : (0 : Int) ≤ (k : Int) := Int.natCast_nonneg _
          have k1 : (k : Int) < (T.length : Int) := by omega
          clear hF hms hm1 hm2 g0 g1 g2 g3
          obtain ⟨g0, g1, g2, g3⟩ := HG.out wr HKR.out
          have hka : Kp 0 0 wr (wr.alloc (.cells #[.int .i64 F.k, .int .i64 F.p, .int .i64 (if F.b then 1 else 0), .int .i64 (F.ms.length : Int)] 3)).drew := ((Kp.refl _ _ _).alloc _).drew
          have hr7 : (wr.alloc (.cells #[.int .i64 F.k, .int .i64 F.p, .int .i64 (if F.b then 1 else 0), .int .i64 (F.ms.length : Int)] 3)).drew.ownsRow bs 3 1 (.slice yo Y.length yc) Y.length (Y.map (.int .i64)) := ownsRow_kp HOR.out.1 hka (fun _ _ => .inr (Nat.zero_le _))
          have hz7 : bs ≤ (wr.alloc (.cells #[.int .i64 F.k, .int .i64 F.p, .int .i64 (if F.b then 1 else 0), .int .i64 (F.ms.length : Int)] 3)).drew.heap.size := Nat.le_trans HSB.out hka.size
          have HON := Lib.hid (refOneB_any F.b)
          obtain ⟨it, hi2, hu0, hu1, hu2⟩ := info_parts info_int
          generalize (if F.b then (1 : Int) else 0) = fb at hka hr7 hz7 HON HEF ⊢
          go_wp2_with fail
          go_region_held3 (fun W => W.cell? ⟨b2, o2 + k * 4, none⟩ = some (.int .i64 F.k) ∧ W.cell? ⟨b2, o2 + k * 4 + 1, none⟩ = some (.int .i64 F.p) ∧ W.cell? ⟨b2, o2 + k * 4 + 2, none⟩ = some (.bool F.b) ∧ W.cell? ⟨b2, o2 + k * 4 + 3, none⟩ = some (.slice mo F.ms.length mc))
            (first
              | exact HG.out _ HKR.out.drew
              | exact HG.out _ (HKR.out.trans hka)
              | exact HG.out _ hk8)
            ((first
              | (refine step_own rfl (.tmp 39) (.tmp 62) 56 rfl bs 3 it (.int .i64 0) 1 8 Try.underlying56 hi2 hu0 hu1 hu2 rfl (by decide) (.slice yo Y.length yc) Y.length (Y.map (.int .i64)) (by simp [Act.eval]) hr7 ⟨wr.heap.size, 0, none⟩ 4 4 [.int .i64 F.k, .int .i64 F.p, .int .i64 fb, .int .i64 (F.ms.length : Int)] (by simp [Act.eval]) rfl (cell_lits wr _ _) (by simp [Value.oneCell']) (by unfold maxLen; omega) (by omega) hz7 ?_
                 intro v8 w8 hown8 hg8 _
                 have hk8 : Kp 0 0 w1 w8 := (HKR.out.trans hka).grown hg8 fun j hj => .inl (by have := (HOR.out.1.lt j hj).1; have := HBE.out; omega))
              | (go_at_call 43
                 refine (HON.out _).mono ?_
                 rintro r w7 ⟨rfl, rfl⟩)))
          all_goals
            have HK8 : Hid (Kp 0 0 w1 w8) := (HKR.out.trans hka).grown hg8 fun j hj => .inl (by have := (HOR.out.1.lt j hj).1; have := HBE.out; omega)
            have HO8 : Hid (OwnI .i64 3 bs w8.heap.size w8 v8 (Y ++ [F.k, F.p, fb, (F.ms.length : Int)])) := OwnI.of_rowN (n := Y.length + 4) (by
              rw [List.map_append]
              exact hown8) (by simp)
            have HZN : Hid (Y ++ Dl.enF F = (Y ++ [F.k, F.p, fb, (F.ms.length : Int)]) ++ F.ms.flatMap Dl.enM) := by
              show _ = _
              rw [HEF.out, List.append_assoc]
            have hzl : (Y ++ [F.k, F.p, fb, (F.ms.length : Int)]).length ≤ 5004 := by rw [List.length_append]; simp; omega
            generalize Y ++ [F.k, F.p, fb, (F.ms.length : Int)] = Z at HO8 HZN hzl
            clear hown8 hg8 hka hr7 hz7 g0 g1 g2 g3 HON HOR HKR HEF
            go_wp2_with fail
            generalize w8 = wz at *
            go_loopw [3, 7, 8] (fun v j _ wx => ∃ n : Nat, n ≤ F.ms.length ∧ j = .int .i64 n ∧ OwnI .i64 3 bs wx.heap.size wx v (Z ++ (F.ms.take n).flatMap Dl.enM) ∧ Kp 0 0 w1 wx) (fun _ j _ _ => F.ms.length - (intOf j).toNat)
            case atStart => exact ⟨0, Nat.zero_le _, rfl, by rw [List.take_zero, List.flatMap_nil, List.append_nil]; exact HO8.out, HK8.out⟩
            case round =>
              obtain ⟨j, hj, rfl, hown, hkp⟩ := hrel
              have HKR := Lib.hid hkp
              have HOR := Lib.hid hown
              have hal : (Z ++ (F.ms.take j).flatMap Dl.enM).length ≤ 5100 := by
                have := Dl.flat_len (en := Dl.enM) (B := 4) (l := F.ms.take j) fun x _ => Dl.lenM x
                rw [List.length_take] at this
                rw [List.length_append]
                omega
              obtain ⟨ao, ac, rfl, _, _, _⟩ := hown.rd.open
              have HSB : Hid (bs ≤ wr.heap.size) := by have := HKR.out.size; have := HBE.out; show _ ≤ _; omega
              obtain ⟨g0, g1, g2, g3⟩ := HG.out wr hkp
              clear hown hkp
              by_cases hjt : j < F.ms.length
              · obtain ⟨M, hM⟩ : ∃ M, F.ms[j]? = some M := ⟨_, List.getElem?_eq_getElem hjt⟩
                obtain ⟨b3, o3, rfl, _, m0, m1, m2, m3⟩ := mv_at HM.out hM
                have HAN : Hid (Z ++ (F.ms.take (j + 1)).flatMap Dl.enM = (Z ++ (F.ms.take j).flatMap Dl.enM) ++ [M.f, M.t, M.n, M.l]) := by
                  show _ = _
                  rw [Dl.flat_snoc _ hM, List.append_assoc]
                  rfl
                generalize Z ++ (F.ms.take j).flatMap Dl.enM = A at HOR hal HAN ⊢
                have m0 := HKR.out.cell m0 (.inr (Nat.zero_le _))
                have m1 := HKR.out.cell m1 (.inr (Nat.zero_le _))
                have m2 := HKR.out.cell m2 (.inr (Nat.zero_le _))
                have m3 := HKR.out.cell m3 (.inr (Nat.zero_le _))
                have j0 : (0 : Int) ≤ (j : Int) := Int.natCast_nonneg _
                have j1 : (j : Int) < (F.ms.length : Int) := by omega
                clear hM
                have hl0 := lit_rd .i64 3 (wr.alloc (.cells #[.int .i64 M.f, .int .i64 M.t, .int .i64 M.n, .int .i64 M.l] 73)) [M.f, M.t, M.n, M.l] (by show 4 ≤ maxLen; decide)
                rw [show (wr.alloc (.cells #[.int .i64 M.f, .int .i64 M.t, .int .i64 M.n, .int .i64 M.l] 73)).heap.size = wr.heap.size + 1 by simp] at hl0
                have HL := Lib.hid hl0
                clear hl0
                go_wp2_with (at_builtin; refine wpList_app rfl _ _ 56 rfl bs 3 .i64 8 Try.underlying56 info_int _ A.length (A.map (.int .i64)) rfl ((HOR.out.1.alloc _).alloc _) _ rfl [M.f, M.t, M.n, M.l] HL.out ?c3 ?c4 ?c5 ?_)
                case c3 => show A.length + 4 ≤ maxLen; unfold maxLen; omega
                case c4 => show (A.length + 4) * 8 ≤ _; omega
                case c5 => have := HSB.out; simp; omega
                intro v9 w9 hown9 hg9
                have HK9 : Hid (Kp 0 0 w1 w9) := ((HKR.out.alloc _).alloc _).grown hg9 fun j hj => .inl (by have := (HOR.out.1.lt j hj).1; have := HBE.out; omega)
                have HO9 : Hid (OwnI .i64 3 bs w9.heap.size w9 v9 (A ++ [M.f, M.t, M.n, M.l])) := OwnI.of_rowN (n := A.length + 4) (by
                  rw [List.map_append]
                  exact hown9) (by simp)
                clear hown9 hg9 HL HOR HKR g0 g1 g2 g3 m0 m1 m2 m3
                go_wp2_with fail
                go_roundw
                case rel => exact ⟨j + 1, by omega, by go_num, by rw [HAN.out]; exact HO9.out, HK9.out⟩
                case measure => simp [intOf]; omega
              · obtain rfl : j = F.ms.length := by omega
                rw [List.take_length] at HOR
                have HOY : Hid (OwnI .i64 3 bs wr.heap.size wr (.slice ao (Z ++ (F.ms.take F.ms.length).flatMap Dl.enM).length ac) (X ++ ((T.length : Int) :: (T.take (k + 1)).flatMap Dl.enF))) := by
                  show OwnI _ _ _ _ _ _ _
                  rw [HYN.out, HZN.out, List.take_length]
                  exact HOR.out
                clear HOR
                go_wp2_with fail
                go_roundw
                case rel => exact ⟨k + 1, by omega, by go_num, HOY.out, HKR.out⟩
                case measure => simp [intOf]; omega
        · obtain rfl : k = T.length := by omega
          have HOX : Hid (OwnI .i64 3 bs wr.heap.size wr (.slice yo (X ++ ((T.length : Int) :: (T.take T.length).flatMap Dl.enF)).length yc) ((d.ts.length : Int) :: (d.ts.take (i + 1)).flatMap Dl.enT)) := by
            show OwnI _ _ _ _ _ _ _
            rw [HXN.out]
            have := HOR.out
            rw [List.take_length] at this ⊢
            exact this
          clear HOR
          go_wp2_with fail
          go_roundw
          case rel => exact ⟨i + 1, by omega, by go_num, HOX.out, HKR.out⟩
          case measure => simp [intOf]; omega
    · obtain rfl : i = d.ts.length := by omega
      rw [List.take_length] at hxl
      have HOX : Hid (OwnI .i64 3 bs wr.heap.size wr (.slice xo ((d.ts.length : Int) :: (d.ts.take d.ts.length).flatMap Dl.enT).length xc) ((d.ts.length : Int) :: d.ts.flatMap Dl.enT)) := by
        have := HOR.out
        rw [List.take_length] at this ⊢
        exact this
      rw [List.take_length] at HOX ⊢
      clear HOR
      have HNM : Hid (Dl.nums d = ((d.ts.length : Int) :: d.ts.flatMap Dl.enT) ++ ((d.ps.length : Int) :: d.ps.flatMap Dl.enP)) := rfl
      generalize (d.ts.length : Int) :: d.ts.flatMap Dl.enT = X at HOX hxl HNM ⊢
      have q00 := blk_cell hq (k := 0) (u := .slice to d.ts.length tc) rfl
      have q01 := blk_cell hq (k := 1) (u := .slice po d.ps.length pc) rfl
      have HSB : Hid (bs ≤ wr.heap.size) := by have := HKR.out.size; have := HBE.out; show _ ≤ _; omega
      clear hq
      have HL := Lib.hid (lit_rd .i64 3 wr [(d.ps.length : Int)] (by show 1 ≤ maxLen; decide))
      go_wp2_with (at_builtin; refine wpList_app rfl _ _ 56 rfl bs 3 .i64 8 Try.underlying56 info_int _ X.length (X.map (.int .i64)) rfl (HOX.out.1.alloc _) _ rfl [(d.ps.length : Int)] HL.out ?c3 ?c4 ?c5 ?_)
      case c3 => show X.length + 1 ≤ maxLen; unfold maxLen; omega
      case c4 => show (X.length + 1) * 8 ≤ _; omega
      case c5 => have := HSB.out; simp; omega
      intro v3 w3 hown3 hg3
      have HK3 : Hid (Kp 0 0 w1 w3) := (HKR.out.alloc _).grown hg3 fun j hj => .inl (by have := (HOX.out.1.lt j hj).1; have := HBE.out; omega)
      have HO3 : Hid (OwnI .i64 3 bs w3.heap.size w3 v3 (X ++ ((d.ps.length : Int) :: (d.ps.take 0).flatMap Dl.enP))) := OwnI.of_rowN (n := X.length + 1) (by
        rw [List.map_append]
        exact hown3) (by simp)
      clear hown3 hg3 q00 q01 HL HOX HQR HKR
      go_wp2_with fail
      generalize w3 = wm at *
      go_loopw [3, 9, 10] (fun v k _ wx => ∃ n : Nat, n ≤ d.ps.length ∧ k = .int .i64 n ∧ OwnI .i64 3 bs wx.heap.size wx v (X ++ ((d.ps.length : Int) :: (d.ps.take n).flatMap Dl.enP)) ∧ Kp 0 0 w1 wx) (fun _ k _ _ => d.ps.length - (intOf k).toNat)
      case atStart => exact ⟨0, Nat.zero_le _, rfl, HO3.out, HK3.out⟩
      case round =>
        obtain ⟨k, hk, rfl, hown, hkp⟩ := hrel
        have HKR := Lib.hid hkp
        have HOR := Lib.hid hown
        have hyl : (X ++ ((d.ps.length : Int) :: (d.ps.take k).flatMap Dl.enP)).length ≤ 5000 := by
          have := Dl.flat_len (en := Dl.enP) (B := 5) (l := d.ps.take k) fun x _ => Nat.le_refl _
          rw [List.length_take] at this
          rw [List.length_append, List.length_cons]
          omega
        obtain ⟨yo, yc, rfl, _, _, _⟩ := hown.rd.open
        have HSB : Hid (bs ≤ wr.heap.size) := by have := HKR.out.size; have := HBE.out; show _ ≤ _; omega
        have q01 := blk_cell (hkp.heap HQ.out (.inr (Nat.zero_le _))) (k := 1) (u := .slice po d.ps.length pc) rfl
        clear hown hkp
        by_cases hkt : k < d.ps.length
        · obtain ⟨M, hM⟩ : ∃ M, d.ps[k]? = some M := ⟨_, List.getElem?_eq_getElem hkt⟩
          obtain ⟨b3, o3, rfl, _, m0, m1, m2, m3, m4⟩ := pj_at HP1.out hM
          have HAN : Hid (X ++ ((d.ps.length : Int) :: (d.ps.take (k + 1)).flatMap Dl.enP) = (X ++ ((d.ps.length : Int) :: (d.ps.take k).flatMap Dl.enP)) ++ [M.t, M.f, M.g, M.b, M.m]) := by
            show _ = _
            rw [Dl.flat_snoc _ hM, ← List.cons_append, List.append_assoc]
            rfl
          generalize X ++ ((d.ps.length : Int) :: (d.ps.take k).flatMap Dl.enP) = A at HOR hyl HAN ⊢
          have m0 := HKR.out.cell m0 (.inr (Nat.zero_le _))
          have m1 := HKR.out.cell m1 (.inr (Nat.zero_le _))
          have m2 := HKR.out.cell m2 (.inr (Nat.zero_le _))
          have m3 := HKR.out.cell m3 (.inr (Nat.zero_le _))
          have m4 := HKR.out.cell m4 (.inr (Nat.zero_le _))
          have j0 : (0 : Int) ≤ (k : Int) := Int.natCast_nonneg _
          have j1 : (k : Int) < (d.ps.length : Int) := by omega
          clear hM
          have hl0 := lit_rd .i64 3 (wr.alloc (.cells #[.int .i64 M.t, .int .i64 M.f, .int .i64 M.g, .int .i64 M.b, .int .i64 M.m] 51)) [M.t, M.f, M.g, M.b, M.m] (by show 5 ≤ maxLen; decide)
          rw [show (wr.alloc (.cells #[.int .i64 M.t, .int .i64 M.f, .int .i64 M.g, .int .i64 M.b, .int .i64 M.m] 51)).heap.size = wr.heap.size + 1 by simp] at hl0
          have HL := Lib.hid hl0
          clear hl0
          go_wp2_with (at_builtin; refine wpList_app rfl _ _ 56 rfl bs 3 .i64 8 Try.underlying56 info_int _ A.length (A.map (.int .i64)) rfl ((HOR.out.1.alloc _).alloc _) _ rfl [M.t, M.f, M.g, M.b, M.m] HL.out ?c3 ?c4 ?c5 ?_)
          case c3 => show A.length + 5 ≤ maxLen; unfold maxLen; omega
          case c4 => show (A.length + 5) * 8 ≤ _; omega
          case c5 => have := HSB.out; simp; omega
          intro v9 w9 hown9 hg9
          have HK9 : Hid (Kp 0 0 w1 w9) := ((HKR.out.alloc _).alloc _).grown hg9 fun j hj => .inl (by have := (HOR.out.1.lt j hj).1; have := HBE.out; omega)
          have HO9 : Hid (OwnI .i64 3 bs w9.heap.size w9 v9 (A ++ [M.t, M.f, M.g, M.b, M.m])) := OwnI.of_rowN (n := A.length + 5) (by
            rw [List.map_append]
            exact hown9) (by simp)
          clear hown9 hg9 HL HOR HKR q01 m0 m1 m2 m3 m4
          go_wp2_with fail
          go_roundw
          case rel => exact ⟨k + 1, by omega, by go_num, by rw [HAN.out]; exact HO9.out, HK9.out⟩
          case measure => simp [intOf]; omega
        · obtain rfl : k = d.ps.length := by omega
          have HOF : Hid (OwnI .i64 3 bs wr.heap.size wr (.slice yo (X ++ ((d.ps.length : Int) :: (d.ps.take d.ps.length).flatMap Dl.enP)).length yc) (Dl.nums d)) := by
            have := HOR.out
            rw [List.take_length] at this ⊢
            show OwnI _ _ _ _ _ _ _
            rw [HNM.out]
            exact this
          clear HOR
          go_wp2_with fail
          go_returns
          exact ⟨_, rfl, HOF.out.wide (by have := HQS.out; have := HQE.out; omega) (Nat.le_refl _), HK1.out.trans HKR.out⟩

end Go.Proofs.Ytgokhagbknlfaaa
