/-
  The landed schema: slices.Clone of moves; Field and Fits keep the document.
-/
import Derived.Test.YtdgeehcfdnokmaaDoorScOk3
import Derived.Lib.SliceRun
namespace Go.Proofs.YtdgeehcfdnokmaaDoor
open Go.RowKit

/-- Moves' cells, one behind the other. -/
def flatM : List Mv → List Value
  | [] => []
  | m :: l => .int .i64 m.f :: .int .i64 m.t :: .int .i64 m.n :: .int .i64 m.l :: flatM l
theorem flatM_len : ∀ l : List Mv, (flatM l).length = l.length * 4
  | [] => rfl
  | m :: l => by simp only [flatM, List.length_cons, flatM_len l]; omega
theorem flatM_one : ∀ l : List Mv, ∀ u ∈ flatM l, u.oneCell' = true
  | [], u, h => by cases h
  | m :: l, u, h => by
    simp only [flatM, List.mem_cons] at h
    rcases h with rfl | rfl | rfl | rfl | h
    · rfl
    · rfl
    · rfl
    · rfl
    · exact flatM_one l u h
theorem flatM_at : ∀ {l : List Mv} {i : Nat} {m : Mv}, l[i]? = some m → ((flatM l).drop (i * 4)).take 4 = [.int .i64 m.f, .int .i64 m.t, .int .i64 m.n, .int .i64 m.l]
  | [], i, m, h => by simp at h
  | x :: l, 0, m, h => by
    simp at h
    subst h
    rfl
  | x :: l, i + 1, m, h => by
    have := flatM_at (l := l) (i := i) (m := m) (by simpa using h)
    rw [show (i + 1) * 4 = i * 4 + 1 + 1 + 1 + 1 by omega]
    simpa only [flatM, List.drop_succ_cons] using this
theorem flatM_get {w : World} {S : Nat → Prop} {ao : Option Addr} {l : List Mv} (h : ClS mvE 4 w S ao l) {ad : Addr} (ha : ao = some ad) : ∀ j u, (flatM l)[j]? = some u → w.cell? (ad.add j) = some u := by
  intro j u hj
  have hj2 := (List.getElem?_eq_some_iff.1 hj).1
  rw [flatM_len] at hj2
  obtain ⟨m, hm⟩ : ∃ m, l[j / 4]? = some m := ⟨_, List.getElem?_eq_getElem (by omega)⟩
  obtain ⟨b, o, he, _, hx⟩ := h (by omega)
  rw [ha] at he
  cases he
  obtain ⟨xs, hl, hc, rfl⟩ := hx _ _ hm
  have e := flatM_at hm
  have hu : ([.int .i64 m.f, .int .i64 m.t, .int .i64 m.n, .int .i64 m.l] : List Value)[j % 4]? = some u := by
    rw [← e, List.getElem?_take, if_pos (Nat.mod_lt _ (by decide)), List.getElem?_drop, show j / 4 * 4 + j % 4 = j by omega, hj]
  have := hc _ _ hu
  rw [Addr.add_lit]
  rw [show o + j = o + j / 4 * 4 + j % 4 by omega]
  exact this

set_option maxHeartbeats 1000000 in
/-- slices.Clone of moves: the same ones, in memory of the call's own. -/
theorem cloneM_any {S : Nat → Prop} (l : List Mv) (w : World) (v : Value) (hv : RdS mvE 4 w S v l) (hl : l.length ≤ 1000000) :
    Calls Tryd.prog 25 #[v] w fun r w' => ∃ v', r = .returned v' ∧ OwnS mvE 39 4 w.heap.size w' (fun _ => False) v' l ∧ Kp 0 0 w w' := by
  obtain ⟨ao, c, rfl, h1, h2, h3, h4⟩ := hv
  have hq : ∀ (w : World) (a : Option Addr) (n c n' c' : Nat), (binOp .eql 31 (.slice a n c) (.slice none n' c')).run Tryd.prog w = .ok (.bool a.isNone) w := fun w a n c n' c' => Lib.run_eql_slice_nil w _ _ a n c n' c' Tryd.underlying31
  cases ao with
  | none =>
    obtain rfl := h3 rfl
    obtain rfl : l = [] := List.eq_nil_of_length_eq_zero (by omega)
    go_enter Tryd.func25, Tryd.ntmps25
    go_wp2_with fail
    go_returns
    exact ⟨_, rfl, OwnS.nil _ _ _ _ _ _, Kp.refl _ _ _⟩
  | some ad =>
    have HG := Lib.hid (flatM_get (S := S) (w := w) h4 rfl)
    clear h3 h4
    obtain ⟨i0, hi, hz0, hz1, hz2⟩ := info_parts info_mv
    go_enter Tryd.func25, Tryd.ntmps25
    go_wp2_with (at_builtin; refine wpList_append_own _ rfl _ _ 31 rfl w.heap.size 39 i0 (.agg #[.int .i64 0, .int .i64 0, .int .i64 0, .int .i64 0]) 4 32 Tryd.underlying31 hi hz0 hz1 hz2 rfl (by decide) _ _ _ rfl (World.ownsRow_made w #[] 0 (Nat.le_refl _) (Nat.zero_le _) rfl) ad l.length c (flatM l) rfl (flatM_len l) ?c2 (flatM_one l) ?c3 ?c4 ?c5 ?_)
    case c2 => exact fun j u hj => Lib.cell?_alloc_some _ (HG.out j u hj)
    case c3 => unfold maxLen; omega
    case c4 => omega
    case c5 => simp
    intro v' w1 hown hgrow _
    go_wp2_with fail
    go_returns
    refine ⟨v', rfl, ⟨flatM l, by simpa using hown, ⟨flatM_len l, fun i x hi => flatM_at hi⟩, fun _ _ h => h⟩, ((Kp.refl 0 0 w).alloc _).grown hgrow fun g hg => .inl ?_⟩
    simp [Value.ownBlock] at hg
    omega

/-- find, whatever it finds. -/
theorem find_any {S : Nat → Prop} (d : Dc) (t f : Int) (w : World) (tv pv : Value) (hd : RdD w S tv pv d) :
    Calls Tryd.prog 24 #[.agg #[tv, pv], .int .i64 t, .int .i64 f] w fun r w' => ∃ mo mc, r = .returned (.tuple #[fieldV ((Sc.field d t f).getD Sc.z) (.slice mo ((Sc.field d t f).getD Sc.z).ms.length mc), .bool (Sc.field d t f).isSome]) ∧ RdS mvE 4 w' S (.slice mo ((Sc.field d t f).getD Sc.z).ms.length mc) ((Sc.field d t f).getD Sc.z).ms ∧ Kp 0 0 w w' := by
  cases hf : Sc.field d t f with
  | none =>
    refine (find_none d t f w tv pv hd hf).mono ?_
    rintro r w' ⟨rfl, hk⟩
    exact ⟨none, 0, rfl, RdS.nil _ _ _ _, hk⟩
  | some X =>
    obtain ⟨n, m, T, rfl, rfl, hT, hX⟩ := Sc.field_inv hf
    exact find_some d n m T X w tv pv hd hT hX

set_option maxRecDepth 100000 in
set_option maxHeartbeats 4000000 in
/-- Field keeps the document. -/
theorem sfieldOk : SFieldOk STabs := by
  intro S d t f w tv pv hd _ hs _ _ _
  have hX : ((Sc.field d t f).getD Sc.z).ms.length ≤ 1000000 := by
    cases hf : Sc.field d t f with
    | none => decide
    | some X =>
      obtain ⟨n, m, T, rfl, rfl, hT, hX⟩ := Sc.field_inv hf
      have := (hs.2.2 T (List.mem_of_getElem? hT)).2 X (List.mem_of_getElem? hX)
      simp only [Option.getD_some]
      omega
  obtain ⟨to, tc, rfl, ht1, ht2, _⟩ := hd.t.open
  obtain ⟨po, pc, rfl, hp1, hp2, _⟩ := hd.p.open
  have HK : Hid (Kp 0 0 w ((w.alloc (.cells #[.slice to d.ts.length tc, .slice po d.ps.length pc] 25)).alloc (.cells #[.int .i64 0, .int .i64 0, .bool false, .slice none 0 0] 33))) := ((Kp.refl _ _ _).alloc _).alloc _
  have HQ := Lib.hid (blk_old (blk_one w (.cells #[.slice to d.ts.length tc, .slice po d.ps.length pc] 25)) (.cells #[.int .i64 0, .int .i64 0, .bool false, .slice none 0 0] 33))
  have HQ2 := Lib.hid (blk_two w (.cells #[.slice to d.ts.length tc, .slice po d.ps.length pc] 25) (.cells #[.int .i64 0, .int .i64 0, .bool false, .slice none 0 0] 33))
  have HF := Lib.hid (find_any d t f _ _ _ (hd.keep0 HK.out))
  clear hd hs ht1 ht2 hp1 hp2
  generalize (Sc.field d t f).getD Sc.z = X at hX HF ⊢
  generalize (Sc.field d t f).isSome = is at HF ⊢
  obtain ⟨xk, xp, xb, xm⟩ := X
  dsimp only at hX HF ⊢
  go_enter Tryd.func11, Tryd.ntmps11
  go_upto_region 1 with fail
  generalize (w.alloc (.cells #[.slice to d.ts.length tc, .slice po d.ps.length pc] 25)).alloc (.cells #[.int .i64 0, .int .i64 0, .bool false, .slice none 0 0] 33) = w1 at HK HQ HQ2 HF ⊢
  have HLQ : Hid (w.heap.size ≤ w.heap.size + 1 ∧ w.heap.size + 1 < w1.heap.size) := ⟨by omega, heap_lt HQ2.out⟩
  have HWE : Hid (∃ q, w.heap.size = q) := ⟨_, rfl⟩
  generalize hq2 : w.heap.size + 1 = q2 at HQ2 HLQ ⊢
  clear hq2
  generalize hq1 : w.heap.size = q1 at HQ HLQ ⊢
  have HE := Lib.hid hq1
  clear hq1 HWE
  have b0 := blk_cell HQ.out (k := 0) (u := .slice to d.ts.length tc) rfl
  have b1 := blk_cell HQ.out (k := 1) (u := .slice po d.ps.length pc) rfl
  go_wp2_with fail
  refine HF.out.mono ?_
  rintro r w2 ⟨mo, mc, rfl, hms, hk2⟩
  unfold fieldV
  dsimp only
  have HK2 : Hid (Kp 0 0 w1 (w2.alloc (.cells #[.int .i64 xk, .int .i64 xp, .bool xb, .slice mo xm.length mc] 33))) := hk2.alloc _
  have HQ3 := Lib.hid (blk_one w2 (.cells #[.int .i64 xk, .int .i64 xp, .bool xb, .slice mo xm.length mc] 33))
  have HM := Lib.hid (hms.keep0 mvE_good ((Kp.refl 0 0 w2).alloc (.cells #[.int .i64 xk, .int .i64 xp, .bool xb, .slice mo xm.length mc] 33)))
  have HL3 : Hid (w1.heap.size ≤ w2.heap.size) := hk2.size
  clear b0 b1 hk2 hms HF
  go_upto_region 2 with fail
  generalize w2.alloc (.cells #[.int .i64 xk, .int .i64 xp, .bool xb, .slice mo xm.length mc] 33) = w3 at HK2 HQ3 HM ⊢
  have HL4 : Hid (w2.heap.size < w3.heap.size) := heap_lt HQ3.out
  generalize w2.heap.size = q3 at HQ3 HL3 HL4 ⊢
  have c3 := blk_cell HQ3.out (k := 3) (u := .slice mo xm.length mc) rfl
  go_wp2_with fail
  refine (cloneM_any xm w3 _ HM.out hX).mono ?_
  rintro r w4 ⟨mv, rfl, hown, hk4⟩
  obtain ⟨no, nc, rfl, _, _, _⟩ := (hown.rd (T := fun _ => True) mvE_good (fun _ _ h => h.elim) (fun _ _ => trivial)).open
  have HO := Lib.hid hown
  have hq3 := hk4.heap HQ3.out (.inr (Nat.zero_le _))
  have hq2 := (HK2.out.trans hk4).heap HQ2.out (.inr (Nat.zero_le _))
  have hq3b := blk_set hq3 3 (.slice no xm.length nc)
  have hks := kp_set w4 q3 3 (.slice no xm.length nc)
  have hq2b := hks.heap hq2 (.inl (by have := HLQ.out; have := HL3.out; omega))
  have HKA : Hid (Kp 0 0 w (w4.setCell ⟨q3, 3, none⟩ (.slice no xm.length nc))) := (HK.out.trans (HK2.out.trans hk4)).step hks fun j h1 h2 => .inl (by have := HLQ.out; have := HL3.out; have := HE.out; omega)
  have hO2 := hown.keep mvE_good hks (fun _ h => h.elim) (fun b hb => by obtain ⟨_, h, _⟩ := hown; have := ownsRow_lt h b hb; have := HL4.out; omega)
  have HO2 := Lib.hid hO2
  have y3 := blk_cell hq3 (k := 3) (u := .slice mo xm.length mc) rfl
  have z3 := blk_frozen hq3 3
  have e0 := blk_cell hq3b (k := 0) (u := .int .i64 xk) rfl
  have e1 := blk_cell hq3b (k := 1) (u := .int .i64 xp) rfl
  have e2 := blk_cell hq3b (k := 2) (u := .bool xb) rfl
  have e3 := blk_cell hq3b (k := 3) (u := .slice no xm.length nc) rfl
  have a0 := blk_cell hq2b (k := 0) (u := .int .i64 0) rfl
  have a1 := blk_cell hq2b (k := 1) (u := .int .i64 0) rfl
  have a2 := blk_cell hq2b (k := 2) (u := .bool false) rfl
  have a3 := blk_cell hq2b (k := 3) (u := .slice none 0 0) rfl
  have f0 := blk_frozen hq2b 0
  have f1 := blk_frozen hq2b 1
  have f2 := blk_frozen hq2b 2
  have f3 := blk_frozen hq2b 3
  have HST := Lib.hid (store_four hq2b rfl (.int .i64 xk) (.int .i64 xp) (.bool xb) (.slice no xm.length nc))
  clear hown hk4 hq3 hq2 hq3b hq2b hO2 hks
  go_wp2_with fail
  obtain ⟨hst, hsk⟩ := HST.out
  generalize (w4.setCell ⟨q3, 3, none⟩ (.slice no xm.length nc)) = wt at *
  generalize ((((wt.setCell ⟨q2, 0, none⟩ (.int .i64 xk)).setCell ⟨q2, 1, none⟩ (.int .i64 xp)).setCell ⟨q2, 2, none⟩ (.bool xb)).setCell ⟨q2, 3, none⟩ (.slice no xm.length nc)) = wu at *
  have g0 := blk_cell hst (k := 0) (u := .int .i64 xk) rfl
  have g1 := blk_cell hst (k := 1) (u := .int .i64 xp) rfl
  have g2 := blk_cell hst (k := 2) (u := .bool xb) rfl
  have g3 := blk_cell hst (k := 3) (u := .slice no xm.length nc) rfl
  try simp only [Exit.inBlock, Exit.then]
  refine bodyPost_ret (by simp [results, Tryd.results11, go_sem, g0, g1, g2, g3]; try rfl) rfl ?_
  have hO := HO2.out.keep mvE_good hsk (fun _ h => h.elim) (fun b hb => by obtain ⟨_, h, _⟩ := HO.out; have := ownsRow_lt h b hb; have := HLQ.out; have := HL3.out; have := HL4.out; omega)
  exact ⟨_, rfl, hO.below (by have := HLQ.out; have := HL3.out; have := HL4.out; have := HE.out; omega), HKA.out.step hsk (fun j h1 h2 => .inl (by have := HLQ.out; have := HE.out; omega))⟩

/-- What fits, by the arrays. -/
theorem fits_in {d : Dc} {t f op arg : Int} {X : Fl} (h : Sc.field d t f = some X) : Sc.fits d t f op arg = if Sc.inS (Sc.opL.getD (Sc.plc X.k) (0, 0)) op = false then 2 else if op = 1 ∧ arg = 0 then 1 else if op = 5 ∧ (arg < 0 ∨ (X.ms.length : Int) ≤ arg) then 1 else 0 := by
  unfold Sc.fits
  rw [h]
  dsimp only
  generalize X.ms.length = L
  generalize X.k = k
  have hp : Sc.inS (Sc.opL.getD (Sc.plc k) (0, 0)) op = decide ((op = 1 ∧ k = 1) ∨ (op = 2 ∧ k = 2) ∨ ((op = 3 ∨ op = 4) ∧ k = 3) ∨ (op = 5 ∧ k = 4)) := by
    unfold Sc.inS
    rw [Bool.eq_iff_iff]
    by_cases hk : k < 1 ∨ 4 < k
    · rw [(plc_zero k).2 hk]
      have e : Sc.opL.getD 0 (0, 0) = (1, 0) := rfl
      rw [e]
      simp
      omega
    · have e1 : Sc.opL.getD (Sc.plc 1) (0, 0) = (1, 1) := rfl
      have e2 : Sc.opL.getD (Sc.plc 2) (0, 0) = (2, 2) := rfl
      have e3 : Sc.opL.getD (Sc.plc 3) (0, 0) = (3, 4) := rfl
      have e4 : Sc.opL.getD (Sc.plc 4) (0, 0) = (5, 5) := rfl
      rcases plc_four hk with rfl | rfl | rfl | rfl
      · rw [e1]; simp; omega
      · rw [e2]; simp; omega
      · rw [e3]; simp; omega
      · rw [e4]; simp; omega
  rw [hp]
  clear hp
  by_cases o1 : op = 1
  · subst o1
    by_cases hk : k = 1
    · subst hk
      by_cases ha : arg = 0 <;> simp [ha]
    · simp [hk]
  by_cases o2 : op = 2
  · subst o2
    by_cases hk : k = 2 <;> simp [hk]
  by_cases o3 : op = 3 ∨ op = 4
  · have o5 : ¬ op = 5 := by omega
    by_cases hk : k = 3 <;> simp [hk, o1, o2, o3, o5]
  by_cases o5 : op = 5
  · subst o5
    by_cases hk : k = 4
    · subst hk
      by_cases ha : arg < 0 ∨ (L : Int) ≤ arg <;> simp [ha]
    · simp [hk]
  · have o3a : ¬ op = 3 := fun h => o3 (.inl h)
    have o3b : ¬ op = 4 := fun h => o3 (.inr h)
    simp [o1, o2, o3a, o3b, o5]

set_option maxRecDepth 100000 in
set_option maxHeartbeats 4000000 in
/-- Fits keeps the document. -/
theorem sfitsOk : SFitsOk STabs := by
  intro S d t f op arg w tv pv hd _ _ _ _ _ _ hp
  have HTB := Lib.hid hp
  obtain ⟨to, tc, rfl, ht1, ht2, _⟩ := hd.t.open
  obtain ⟨po, pc, rfl, hp1, hp2, _⟩ := hd.p.open
  have HK : Hid (Kp 0 0 w (w.alloc (.cells #[.slice to d.ts.length tc, .slice po d.ps.length pc] 25))) := (Kp.refl _ _ _).alloc _
  have hq := blk_one w (.cells #[.slice to d.ts.length tc, .slice po d.ps.length pc] 25)
  have HD := Lib.hid (hd.keep0 HK.out)
  have b0 := blk_cell hq (k := 0) (u := .slice to d.ts.length tc) rfl
  have b1 := blk_cell hq (k := 1) (u := .slice po d.ps.length pc) rfl
  clear hd ht1 ht2 hp1 hp2 hq hp
  go_enter Tryd.func15, Tryd.ntmps15
  cases hf : Sc.field d t f with
  | none =>
    have HG : Hid (Sc.fits d t f op arg = 8) := by show _ = _; unfold Sc.fits; rw [hf]
    have HF := Lib.hid (find_none d t f _ _ _ HD.out hf)
    clear hf
    go_wp2_with fail
    refine HF.out.mono ?_
    rintro r w2 ⟨rfl, hk2⟩
    unfold fieldV
    go_wp2_with fail
    go_returns
    exact ⟨by rw [HG.out]; rfl, HK.out.trans (hk2.alloc _)⟩
  | some X =>
    have HG := Lib.hid (fits_in (op := op) (arg := arg) hf)
    obtain ⟨n, m, T, rfl, rfl, hT, hX⟩ := Sc.field_inv hf
    have HF := Lib.hid (find_some d n m T X _ _ _ HD.out hT hX)
    clear hf hT hX
    go_wp2_with fail
    refine HF.out.mono ?_
    rintro r w2 ⟨mo, mc, rfl, hms, hk2⟩
    obtain ⟨_, _, he, hml, hmc, _⟩ := hms.open
    have hml : X.ms.length ≤ 9223372036854775807 := by omega
    clear he hmc hms
    unfold fieldV
    have HK2 : Hid (Kp 0 0 w (w2.alloc (.cells #[.int .i64 X.k, .int .i64 X.p, .bool X.b, .slice mo X.ms.length mc] 33))) := HK.out.trans (hk2.alloc _)
    have HQ3 := Lib.hid (blk_one w2 (.cells #[.int .i64 X.k, .int .i64 X.p, .bool X.b, .slice mo X.ms.length mc] 33))
    clear hk2 b0 b1 HF
    go_upto_region 4 with fail
    generalize w2.alloc (.cells #[.int .i64 X.k, .int .i64 X.p, .bool X.b, .slice mo X.ms.length mc] 33) = w3 at HK2 HQ3 ⊢
    generalize w2.heap.size = q at HQ3 ⊢
    have c0 := blk_cell HQ3.out (k := 0) (u := .int .i64 X.k) rfl
    have c3 := blk_cell HQ3.out (k := 3) (u := .slice mo X.ms.length mc) rfl
    have HPL := Lib.hid (place_any X.k w3)
    obtain ⟨t1, t2⟩ := (HTB.out.keep HK2.out).op (Sc.plc X.k) (Sc.plc_lt _)
    have hp5 := Sc.plc_lt X.k
    generalize Sc.plc X.k = p at HPL t1 t2 hp5 HG ⊢
    generalize Sc.opL.getD p (0, 0) = s at t1 t2 HG ⊢
    have p0 : (0 : Int) ≤ (p : Int) := Int.natCast_nonneg _
    have p5 : (p : Int) < 5 := by omega
    have HH := Lib.hid (has_any s op w3)
    go_wp2_with fail
    refine HPL.out.mono ?_
    rintro r w4 ⟨rfl, rfl⟩
    go_wp2_with fail
    refine HH.out.mono ?_
    rintro r w5 ⟨rfl, hk5⟩
    have HK5 := Lib.hid (HK2.out.trans hk5)
    have c3 := hk5.cell c3 (.inr (Nat.zero_le _))
    clear hk5 t1 t2 HH HPL c0
    cases hin : Sc.inS s op with
    | false =>
      have HR : Hid (Sc.fits d n m op arg = 2) := by show _ = _; rw [HG.out, if_pos hin]
      go_wp2_with fail
      go_returns
      exact ⟨by rw [HR.out]; rfl, HK5.out⟩
    | true =>
      have HG2 : Hid (Sc.fits d n m op arg = if op = 1 ∧ arg = 0 then 1 else if op = 5 ∧ (arg < 0 ∨ (X.ms.length : Int) ≤ arg) then 1 else 0) := by show _ = _; rw [HG.out, if_neg (by rw [hin]; decide)]
      by_cases o1 : op = 1
      · subst o1
        by_cases ha : arg = 0
        · subst ha
          have HR : Hid (Sc.fits d n m 1 0 = 1) := HG2.out
          go_wp2_with fail
          go_returns
          exact ⟨by rw [HR.out]; rfl, HK5.out⟩
        · have HR : Hid (Sc.fits d n m 1 arg = 0) := by show _ = _; rw [HG2.out, if_neg (by simp [ha]), if_neg (by simp)]
          have ha1 : (arg == 0) = false := by simp [ha]
          go_wp2_with fail
          go_returns
          exact ⟨by rw [HR.out]; rfl, HK5.out⟩
      · have o1b : (op == 1) = false := by simp [o1]
        by_cases o5 : op = 5
        · subst o5
          by_cases ha : 0 ≤ arg ∧ arg < (X.ms.length : Int)
          · have HR : Hid (Sc.fits d n m 5 arg = 0) := by show _ = _; rw [HG2.out, if_neg (by simp), if_neg (by omega)]
            have hb : decide (0 ≤ arg ∧ arg < (X.ms.length : Int)) = true := decide_eq_true ha
            clear ha
            go_wp2_with (go_at_call 31; refine (below_any _ _ _).mono ?_; rintro r w6 ⟨rfl, rfl⟩; rw [hb])
            go_returns
            exact ⟨by rw [HR.out]; rfl, HK5.out⟩
          · have HR : Hid (Sc.fits d n m 5 arg = 1) := by show _ = _; rw [HG2.out, if_neg (by simp), if_pos (by omega)]
            have hb : decide (0 ≤ arg ∧ arg < (X.ms.length : Int)) = false := decide_eq_false ha
            clear ha
            go_wp2_with (go_at_call 31; refine (below_any _ _ _).mono ?_; rintro r w6 ⟨rfl, rfl⟩; rw [hb])
            go_returns
            exact ⟨by rw [HR.out]; rfl, HK5.out⟩
        · have o5b : (op == 5) = false := by simp [o5]
          have HR : Hid (Sc.fits d n m op arg = 0) := by show _ = _; rw [HG2.out, if_neg (by simp [o1]), if_neg (by simp [o5])]
          go_wp2_with fail
          go_returns
          exact ⟨by rw [HR.out]; rfl, HK5.out⟩

end Go.Proofs.YtdgeehcfdnokmaaDoor
