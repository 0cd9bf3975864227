/-
  The document's answer for package decl: Put.
-/
import Derived.Test.YtgokhagbknlfaaaDlRef2
namespace Go.Proofs.Ytgokhagbknlfaaa
open Go.RowKit
set_option maxRecDepth 100000

theorem i64s_dnums {d : Dc} (h : Dl.OkD d) : Ev.I64s (Dl.nums d) := by
  intro x hx
  have hM : ∀ m, Sc.FitsM m → ∀ x ∈ Dl.enM m, Ev.I64 x := fun m hm x hx => by
    simp [Dl.enM] at hx
    rcases hx with rfl | rfl | rfl | rfl
    · exact hm.1
    · exact hm.2.1
    · exact hm.2.2.1
    · exact hm.2.2.2
  have hF : ∀ f, Dl.OkF f → ∀ x ∈ Dl.enF f, Ev.I64 x := fun f hf x hx => by
    unfold Dl.enF Dl.enB at hx
    simp only [List.mem_append, List.mem_cons, List.not_mem_nil, or_false, List.mem_flatMap] at hx
    rcases hx with ((rfl | rfl) | rfl) | (rfl | ⟨m, hm, hx⟩)
    · exact hf.1.1
    · exact hf.1.2.1
    · cases f.b <;> exact ⟨by decide, by decide⟩
    · have := hf.2; exact ⟨by omega, by omega⟩
    · exact hM m (hf.1.2.2 m hm) x hx
  have hT : ∀ t, Dl.OkT t → ∀ x ∈ Dl.enT t, Ev.I64 x := fun t ht x hx => by
    unfold Dl.enT at hx
    simp only [List.mem_cons, List.mem_flatMap] at hx
    rcases hx with rfl | ⟨f, hf, hx⟩
    · have := ht.1; exact ⟨by omega, by omega⟩
    · exact hF f (ht.2 f hf) x hx
  unfold Dl.nums at hx
  simp only [List.mem_append, List.mem_cons, List.mem_flatMap] at hx
  rcases hx with (rfl | ⟨t, ht, hx⟩) | (rfl | ⟨p, hp, hx⟩)
  · have := h.1.1; exact ⟨by omega, by omega⟩
  · exact hT t (h.1.2 t ht) x hx
  · have := h.2.1; exact ⟨by omega, by omega⟩
  · have := h.2.2 p hp
    simp [Dl.enP] at hx
    rcases hx with rfl | rfl | rfl | rfl | rfl
    · exact this.1
    · exact this.2.1
    · exact this.2.2.1
    · exact this.2.2.2.1
    · exact this.2.2.2.2

theorem take_snoc_int {l : List Int} {k : Nat} (h : k < l.length) : l.take (k + 1) = l.take k ++ [l.getD k 0] := by
  rw [List.take_succ_eq_append_getElem h]
  simp [List.getD, h]

theorem dnums_len {d : Dc} (h : Dl.OkD d) : (Dl.nums d).length ≤ 5000 := by
  have h1 := Dl.flat_len (en := Dl.enT) (B := 545) (l := d.ts) fun t ht => by
    have := h.1.2 t ht
    exact Dl.lenT (by have := this.1; omega) fun f hf => (this.2 f hf).2
  have h2 := Dl.flat_len (en := Dl.enP) (B := 5) (l := d.ps) fun x _ => Nat.le_refl _
  have h3 := h.1.1
  have h4 := h.2.1
  unfold Dl.nums
  simp only [List.length_append, List.length_cons]
  omega

set_option maxRecDepth 100000 in
set_option maxHeartbeats 4000000 in
theorem refDPut_any {S : Nat → Prop} (d : Dc) (w : World) (tv pv : Value) (hd : RdD w S tv pv d) (hf : Sc.Fits d) :
    Calls Try.prog 11 #[.agg #[tv, pv]] w fun r w' => ∃ v, r = .returned (.tuple #[v, .int .i64 (Dl.put d).2]) ∧ OwnI .u8 5 w.heap.size w'.heap.size w' v (Dl.put d).1 ∧ Kp 0 0 w w' := by
  have HD := Lib.hid hd
  obtain ⟨to, tc, rfl, ht1, ht2, _⟩ := hd.t.open
  obtain ⟨po, pc, rfl, hp1, hp2, _⟩ := hd.p.open
  have HKA : Hid (Kp 0 0 w (w.alloc (.cells #[.slice to d.ts.length tc, .slice po d.ps.length pc] 25))) := (Kp.refl _ _ _).alloc _
  have HQ := Lib.hid (blk_one w (.cells #[.slice to d.ts.length tc, .slice po d.ps.length pc] 25))
  have HMA := Lib.hid (refDMany_any d _ _ _ (HD.out.keep0 HKA.out))
  have HP : Hid (Dl.put d = if Dl.many d = true then ([], 3) else (Ev.encs (Dl.nums d), 0)) := rfl
  have HOK : Hid (Dl.many d = false → Dl.OkD d) := fun h => Dl.ok_of hf h
  clear hd ht1 ht2 hp1 hp2 hf
  go_enter Try.func11, Try.ntmps11
  go_wp2_with fail
  generalize w.alloc (.cells #[.slice to d.ts.length tc, .slice po d.ps.length pc] 25) = w1 at HKA HQ HMA ⊢
  generalize w.heap.size = q at HQ ⊢
  refine HMA.out.mono ?_
  rintro r w2 ⟨rfl, hk⟩
  have HK2 := Lib.hid (HKA.out.trans hk)
  have hq2 := hk.heap HQ.out (.inr (Nat.zero_le _))
  have q0 := blk_cell hq2 (k := 0) (u := .slice to d.ts.length tc) rfl
  have q1 := blk_cell hq2 (k := 1) (u := .slice po d.ps.length pc) rfl
  clear hk hq2 HMA
  cases hma : Dl.many d with
  | true =>
    rw [hma, if_pos rfl] at HP
    clear hma
    go_wp2_with fail
    go_returns
    rw [HP.out]
    exact ⟨_, rfl, OwnI.nil _ _ _ _ _, HK2.out⟩
  | false =>
    rw [hma, if_neg (by decide)] at HP
    have hok := HOK.out hma
    have HNB := Lib.hid (refNumbers_any d w2 _ _ (HD.out.keep0 HK2.out) hma)
    have HF := Lib.hid (i64s_dnums hok)
    have hl5 := dnums_len hok
    clear hma hok HOK HD
    go_wp2_with fail
    refine HNB.out.mono ?_
    rintro r w5 ⟨v5, rfl, hown, hk5⟩
    have HK5 := Lib.hid (HK2.out.trans hk5)
    obtain ⟨o5, c5, rfl, g1, g2, hcl⟩ := hown.rd.open
    have HCL := Lib.hid hcl
    have hsw : w.heap.size ≤ w5.heap.size := HK5.out.size
    clear hcl hown hk5 HNB q0 q1
    generalize Dl.nums d = L at *
    go_wp2_with fail
    go_loopw [5, 6] (fun v' i wr => ∃ (k : Nat), k ≤ L.length ∧ i = .int .i64 k ∧ OwnI .u8 5 w5.heap.size wr.heap.size wr v' (Ev.encs (L.take k)) ∧ Kp 0 0 w5 wr) (fun _ i _ => L.length - (intOf i).toNat)
    case atStart => exact ⟨0, Nat.zero_le _, rfl, OwnI.nil _ _ _ _ _, Kp.refl _ _ _⟩
    case round =>
      obtain ⟨k, hk, rfl, hown, hkp⟩ := hrel
      have HKP := Lib.hid hkp
      clear hkp
      by_cases hlt : k < L.length
      · have HO := Lib.hid hown
        obtain ⟨o6, c6, rfl, _, _, _⟩ := hown.rd.open
        clear hown
        obtain ⟨b1, o1, rfl, _, _, hc1⟩ := HCL.out (by omega)
        have c1 := HKP.out.cell (hc1 k hlt) (.inr (Nat.zero_le _))
        have HSN : Hid (Ev.encs (L.take (k + 1)) = Ev.encs (L.take k) ++ Pk.enc (L.getD k 0)) := by
          show _ = _
          rw [take_snoc_int hlt, Ev.encs_snoc]
        have hx : Ev.I64 (L.getD k 0) := HF.out _ (by simp [List.getD, hlt])
        have hel := (Ev.encs_len (l := L.take k) fun x hx => HF.out x (List.mem_of_mem_take hx)).2
        rw [List.length_take] at hel
        have k0 : (0 : Int) ≤ (k : Int) := Int.natCast_nonneg _
        have k1 : (k : Int) < (L.length : Int) := by omega
        clear hc1
        generalize L.getD k 0 = x at *
        generalize Ev.encs (L.take k) = B at *
        go_wp2_with fail
        refine (refInt_any _ B x wr HO.out.rd (by omega) hx.1 hx.2).mono ?_
        rintro r w6 ⟨v6, rfl, hown, hk6⟩
        have HO6 : Hid (OwnI .u8 5 w5.heap.size w6.heap.size w6 v6 (B ++ Pk.enc x)) := hown.wide HKP.out.size (Nat.le_refl _)
        have HK6 := Lib.hid (HKP.out.trans hk6)
        clear hown hk6
        go_wp2_with fail
        go_roundw
        case rel => exact ⟨k + 1, by omega, by go_num, by rw [HSN.out]; exact HO6.out, HK6.out⟩
        case measure => simp [intOf]; omega
      · obtain rfl : k = L.length := by omega
        rw [List.take_length] at hown
        have HO := Lib.hid hown
        obtain ⟨o6, c6, rfl, _, _, _⟩ := hown.rd.open
        clear hown
        go_wp2_with fail
        go_returns
        rw [HP.out]
        exact ⟨_, rfl, HO.out.wide hsw (Nat.le_refl _), HK5.out.trans HKP.out⟩

end Go.Proofs.Ytgokhagbknlfaaa
