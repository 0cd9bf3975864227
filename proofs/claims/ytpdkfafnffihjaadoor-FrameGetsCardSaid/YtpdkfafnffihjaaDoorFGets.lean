/-
  FrameGets as a contract, where Put, Get and Scan keep the document.
-/
import Derived.Test.YtpdkfafnffihjaaDoorSameF
import Derived.Test.YtpdkfafnffihjaaDoorSpoil
import Derived.Test.YtpdkfafnffihjaaDoorFSpec
import Derived.Test.YtpdkfafnffihjaaDoorFr4
namespace Go.Proofs.YtpdkfafnffihjaaDoor
open Go.RowKit

set_option maxRecDepth 100000 in
set_option maxHeartbeats 4000000 in
theorem gets_any {h1 : Nat} (HP : PutOk) (HG : GetOk) (HS : ScanOk) (b : List Nat) (w : World) (v : Value) (hr : RdI .u8 0 h1 w v (ints b)) (rb : ∀ x ∈ b, x < 256) (ht : Tabs w) :
    Calls Tryd.prog 4 #[v] w fun e w' => e = .returned (.bool true) ∧ Kp 0 0 w w' := by
  obtain ⟨ao, c, rfl, hb1, hb2, _⟩ := hr.open
  rw [ints_len] at hb1 hr ⊢
  have HR := Lib.hid hr
  have RB := Lib.hid rb
  have HT := Lib.hid ht
  clear hr rb ht
  by_cases h13 : 8192 < b.length
  · go_enter Tryd.func4, Tryd.ntmps4
    go_wp2_with fail
    refine (shown_any HP HG _ HT.out).mono ?_
    rintro e w1 ⟨rfl, hk⟩
    go_wp2_with fail
    go_returns
    exact ⟨rfl, hk⟩
  go_enter Tryd.func4, Tryd.ntmps4
  go_wp2_with fail
  refine (copy_any _ _ (ints b) HR.out (by rw [ints_len]; omega)).mono ?_
  rintro e w1 ⟨vi, rfl, hown, hk⟩
  obtain ⟨ai, ci, rfl, _, _, _⟩ := hown.rd.open
  rw [ints_len] at hown ⊢
  have HI1 := Lib.hid hown.rd
  have HK1 := Lib.hid hk
  clear hown hk
  go_wp2_with fail
  have HSCN := Lib.hid (HS w1.heap.size)
  have hget := HG _ _ b _ _ HI1.out RB.out (HT.out.keep HK1.out)
  have HRG : Hid (∀ (l1 h1 : Nat) (w : World) (v : Value), RdI .u8 l1 h1 w v (ints b) → Calls Tryd.prog 17 #[v] w fun e w' => GotV w e w' (Fr.get b)) := fun l1 h1 w v h => refGet_any b w v h RB.out
  have hrl := Fr.get_body_le b
  generalize Fr.get b = r at hget HRG hrl
  obtain ⟨rk, rb, rn, re⟩ := r
  simp only at hrl
  refine hget.mono ?_
  clear hget HSCN
  rintro e w2 ⟨vf, rfl, hownf, hk⟩
  obtain ⟨af, cf, rfl, _, _, _⟩ := hownf.rd.open
  have HF2 := Lib.hid hownf
  have HK2 := Lib.hid hk
  clear hownf hk
  go_wp2_with fail
  have CF0 : Hid ((w2.alloc (.cells #[.int .i64 (rk : Int), .slice af (ints rb).length cf] 24)).cell? ⟨w2.heap.size, 0, none⟩ = some (.int .i64 (rk : Int))) := by show _ = _; simp
  have CF1 : Hid ((w2.alloc (.cells #[.int .i64 (rk : Int), .slice af (ints rb).length cf] 24)).cell? ⟨w2.heap.size, 1, none⟩ = some (.slice af (ints rb).length cf)) := by show _ = _; simp
  have HKF : Hid (Kp 0 0 w1 (w2.alloc (.cells #[.int .i64 (rk : Int), .slice af (ints rb).length cf] 24))) := HK2.out.alloc _
  have HFF : Hid (OwnI .u8 5 w1.heap.size w2.heap.size (w2.alloc (.cells #[.int .i64 (rk : Int), .slice af (ints rb).length cf] 24)) (.slice af (ints rb).length cf) (ints rb)) := HF2.out.keep0 ((Kp.refl _ _ _).alloc _)
  clear HF2 HK2
  generalize w2.alloc (.cells #[.int .i64 (rk : Int), .slice af (ints rb).length cf] 24) = wf at HKF CF0 CF1 HFF ⊢
  generalize w2.heap.size = pf at CF0 CF1 HFF ⊢
  refine (HRG.out _ _ wf _ (HR.out.keep0 (HK1.out.trans HKF.out))).mono ?_
  rintro e w3 ⟨vg, rfl, howng, hk⟩
  obtain ⟨ag, cg, rfl, _, _, _⟩ := howng.rd.open
  have HG3 := Lib.hid howng.rd
  have HK3 := Lib.hid hk
  clear howng hk
  go_wp2_with fail
  have CG0 : Hid ((w3.alloc (.cells #[.int .i64 (rk : Int), .slice ag (ints rb).length cg] 24)).cell? ⟨w3.heap.size, 0, none⟩ = some (.int .i64 (rk : Int))) := by show _ = _; simp
  have CG1 : Hid ((w3.alloc (.cells #[.int .i64 (rk : Int), .slice ag (ints rb).length cg] 24)).cell? ⟨w3.heap.size, 1, none⟩ = some (.slice ag (ints rb).length cg)) := by show _ = _; simp
  have HKG : Hid (Kp 0 0 wf (w3.alloc (.cells #[.int .i64 (rk : Int), .slice ag (ints rb).length cg] 24))) := HK3.out.alloc _
  have HGG := Lib.hid (HG3.out.keep0 ((Kp.refl 0 0 w3).alloc (.cells #[.int .i64 (rk : Int), .slice ag (ints rb).length cg] 24)))
  clear HG3 HK3
  generalize w3.alloc (.cells #[.int .i64 (rk : Int), .slice ag (ints rb).length cg] 24) = wg at HKG CG0 CG1 HGG ⊢
  generalize w3.heap.size = pg at CG0 CG1 HGG ⊢
  have HK13 := Lib.hid (HKF.out.trans HKG.out)
  refine (HS _ _ b wg _ (HI1.out.keep0 HK13.out) RB.out (by omega) (HT.out.keep (HK1.out.trans HK13.out))).mono ?_
  rintro e w4 ⟨vl, rfl, hownl, hk⟩
  obtain ⟨al, cl, rfl, hcl1, hcl2⟩ : ∃ al cl, vl = .slice al (Fr.scan b).1.length cl ∧ (Fr.scan b).1.length ≤ cl ∧ cl ≤ 9223372036854775807 := by
    obtain ⟨a', c', hv, h1, h2, _⟩ := hownl.rd
    rw [asF_len] at hv h1
    exact ⟨a', c', hv, h1, h2⟩
  have HL4 := Lib.hid hownl
  have HK4 := Lib.hid hk
  clear hownl hk
  go_wp2_with fail
  refine (refScan_any b w4 _ (HR.out.keep0 (HK1.out.trans (HK13.out.trans HK4.out))) RB.out (by omega)).mono ?_
  rintro e w5 ⟨vx, rfl, hownx, hk⟩
  have HX5 := Lib.hid hownx.rd
  have HL5 := Lib.hid (HL4.out.keep0 hk)
  have HKL5 := Lib.hid hk
  have HK5 := Lib.hid (HK4.out.trans hk)
  clear hownx hk
  have HLL : Hid (∀ i, i < (Fr.scan b).1.length → ((Fr.scan b).1.getD i (0, [])).2.length ≤ 140737488351232) := fun i hi => by
    have := Fr.scan_body_le b ((Fr.scan b).1.getD i (0, [])) (by simp [List.getD, hi])
    omega
  generalize Fr.scan b = S at *
  obtain ⟨sf, sk⟩ := S
  simp only at HX5 HL5 HLL hcl1 ⊢
  have HKF5 := Lib.hid (HKG.out.trans HK5.out)
  have cf0 := HKF5.out.cell CF0.out (.inr (Nat.zero_le _))
  have cf1 := HKF5.out.cell CF1.out (.inr (Nat.zero_le _))
  have cg0 := HK5.out.cell CG0.out (.inr (Nat.zero_le _))
  have cg1 := HK5.out.cell CG1.out (.inr (Nat.zero_le _))
  have he1 : (re != re) = false := by simp
  have he2 : ((rn : Int) != (rn : Int)) = false := by simp
  have he3 : ((rk : Int) != (rk : Int)) = false := by simp
  have he4 : ((sk : Int) != (sk : Int)) = false := by simp
  have HFB := Lib.hid (HFF.out.rd.keep0 HKF5.out)
  have HGB := Lib.hid (HGG.out.keep0 HK5.out)
  have HSM : Hid (∀ W, Kp 0 0 w5 W → Calls Tryd.prog 14 #[.slice af (ints rb).length cf, .slice ag (ints rb).length cg] W fun e w' => e = .returned (.bool true) ∧ Kp 0 0 w5 w') := fun W hW => (same_yes W _ _ (ints rb) (HFB.out.keep0 hW) (HGB.out.keep0 hW)).mono fun e w' h => ⟨h.1, hW.trans h.2⟩
  have HSF : Hid (∀ W, Kp 0 0 w5 W → Calls Tryd.prog 20 #[.slice al sf.length cl, vx] W fun e w' => e = .returned (.bool true) ∧ Kp 0 0 w5 w') := fun W hW => (same_frames W _ _ (asF sf) (HL5.out.rd.keep0 hW) (HX5.out.keep0 hW)).mono fun e w' h => ⟨h.1, hW.trans h.2⟩
  have HKS : Hid (∀ W, Kp 0 0 w5 W → W.cell? ⟨pf, 0, none⟩ = some (.int .i64 (rk : Int)) ∧ W.cell? ⟨pf, 1, none⟩ = some (.slice af (ints rb).length cf) ∧ W.cell? ⟨pg, 0, none⟩ = some (.int .i64 (rk : Int)) ∧ W.cell? ⟨pg, 1, none⟩ = some (.slice ag (ints rb).length cg) ∧ Kp 0 0 w5 W) := fun W hW => ⟨hW.cell cf0 (.inr (Nat.zero_le _)), hW.cell cf1 (.inr (Nat.zero_le _)), hW.cell cg0 (.inr (Nat.zero_le _)), hW.cell cg1 (.inr (Nat.zero_le _)), hW⟩
  go_wp2_with fail
  refine (HSM.out _ (Kp.refl 0 0 w5)).mono ?_
  rintro e w7 ⟨rfl, hk7⟩
  have HK7 := Lib.hid hk7
  clear hk7
  go_wp2_with fail
  refine (HSF.out _ HK7.out).mono ?_
  rintro e w8 ⟨rfl, hk8⟩
  have cf1 := hk8.cell cf1 (.inr (Nat.zero_le _))
  have HK8 := Lib.hid hk8
  have HFS8 := Lib.hid (HFF.out.keep0 (HKF5.out.trans hk8)).sp
  have HL8 := Lib.hid (HL5.out.keep0 hk8)
  have HKW8 := Lib.hid (HKF.out.trans (HKF5.out.trans hk8))
  have hsg := HK13.out.size
  clear hk8 cf0 cg0 cg1
  go_wp2_with fail
  refine (spoil_sz _ _ _ HFS8.out (by rw [ints_len]; omega)).mono ?_
  rintro e w9 ⟨rfl, hk9, hs9⟩
  have HKW9 : Hid (Kp 0 0 w1 w9) := HKW8.out.step hk9 fun j h _ => .inl h
  have HS9 := Lib.hid hs9
  clear hk9 hs9 cf1
  go_wp2_with fail
  go_loopw [14] (fun i wr => ∃ k : Nat, i = .int .i64 k ∧ k ≤ sf.length ∧ Hid (Sz w8 wr) ∧ Kp 0 0 w1 wr) (fun i _ => sf.length - (intOf i).toNat)
  case atStart => exact ⟨0, rfl, Nat.zero_le _, HS9, HKW9.out⟩
  case round =>
    obtain ⟨k, rfl, hk, HSZ, hkp⟩ := hrel
    have HKP := Lib.hid hkp
    clear hkp
    by_cases hlt : k < sf.length
    · obtain ⟨g, o, rfl, vb, d1, hsp⟩ := HL8.out.body HSZ.out hlt
      have HSP := Lib.hid hsp
      clear hsp
      go_wp2_with fail
      refine (spoil_sz _ _ _ HSP.out (HLL.out k hlt)).mono ?_
      rintro e w10 ⟨rfl, hk10, hs10⟩
      have HKX : Hid (Kp 0 0 w1 w10) := HKP.out.step hk10 fun j h _ => .inl (Nat.le_trans hsg h)
      have HSX : Hid (Sz w8 w10) := HSZ.out.trans hs10
      clear hk10 hs10
      go_wp2_with fail
      go_roundw
      case rel => exact ⟨k + 1, by go_num, by omega, HSX, HKX.out⟩
      case measure => simp [intOf]; omega
    · go_wp2_with fail
      refine (same_yes _ _ _ (ints b) (HI1.out.keep0 HKP.out) (HR.out.keep0 (HK1.out.trans HKP.out))).mono ?_
      rintro e w10 ⟨rfl, hk10⟩
      have HKX : Hid (Kp 0 0 w1 w10) := HKP.out.trans hk10
      clear hk10
      go_wp2_with fail
      refine (shown_any HP HG _ (HT.out.keep (HK1.out.trans HKX.out))).mono ?_
      rintro e w11 ⟨rfl, hk11⟩
      go_wp2_with fail
      go_returns
      exact ⟨rfl, HK1.out.trans (HKX.out.trans hk11)⟩

end Go.Proofs.YtpdkfafnffihjaaDoor
