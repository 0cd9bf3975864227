/-
  The document's answer for package frame: Put.
-/
import Derived.Test.YtpdkfafnffihjaaDoorFr
import Derived.Test.YtpdkfafnffihjaaDoorInts
import Derived.Test.YtpdkfafnffihjaaDoorCRef2
import Derived.Test.YtpdkfafnffihjaaDoorKit2
import Derived.Handy
namespace Go.Proofs.YtpdkfafnffihjaaDoor
open Go.RowKit

theorem put_bad1 {k : Int} (b : List Nat) (h : k < 1 ∨ 255 < k) : Fr.put k b = ([], 2) := by unfold Fr.put; rw [if_pos h]
theorem put_bad2 {k : Int} {b : List Nat} (h : ¬ (k < 1 ∨ 255 < k)) (h2 : 65536 < b.length) : Fr.put k b = ([], 5) := by unfold Fr.put; rw [if_neg h, if_pos h2]
theorem put_good {k : Int} {b : List Nat} (h : ¬ (k < 1 ∨ 255 < k)) (h2 : ¬ 65536 < b.length) : Fr.put k b = (Fr.enc k.toNat b, 0) := by unfold Fr.put; rw [if_neg h, if_neg h2]

set_option maxRecDepth 100000 in
set_option maxHeartbeats 2000000 in
theorem refPut_any {l1 h1 : Nat} (k : Int) (b : List Nat) (w : World) (vb : Value) (hb : RdI .u8 l1 h1 w vb (ints b)) (rb : ∀ x ∈ b, x < 256) :
    Calls Tryd.prog 13 #[.agg #[.int .i64 k, vb]] w fun e w' => ∃ v, e = .returned (.tuple #[v, .int .i64 (Fr.put k b).2]) ∧ OwnI .u8 5 w.heap.size w'.heap.size w' v (ints (Fr.put k b).1) ∧ Kp 0 0 w w' := by
  obtain ⟨ao, c, rfl, hb1, hb2, hcl⟩ := hb.open
  rw [ints_len] at hb1 ⊢
  have HCL := Lib.hid hcl
  clear hb hcl
  by_cases hk : k < 1 ∨ 255 < k
  · have HP := Lib.hid (put_bad1 b hk)
    rcases hk with hk | hk
    · go_enter Tryd.func13, Tryd.ntmps13
      go_wp2_with fail
      go_returns
      rw [HP.out]
      exact ⟨_, rfl, OwnI.nil _ _ _ _ _, (Kp.refl _ _ _).alloc _⟩
    · go_enter Tryd.func13, Tryd.ntmps13
      go_wp2_with fail
      go_returns
      rw [HP.out]
      exact ⟨_, rfl, OwnI.nil _ _ _ _ _, (Kp.refl _ _ _).alloc _⟩
  by_cases hl : 65536 < b.length
  · have HP := Lib.hid (put_bad2 hk hl)
    have hk1 : ¬ k < 1 := fun h => hk (.inl h)
    have hk2 : ¬ 255 < k := fun h => hk (.inr h)
    go_enter Tryd.func13, Tryd.ntmps13
    go_wp2_with fail
    go_returns
    rw [HP.out]
    exact ⟨_, rfl, OwnI.nil _ _ _ _ _, (Kp.refl _ _ _).alloc _⟩
  have HP := Lib.hid (put_good hk hl)
  obtain ⟨K, rfl⟩ : ∃ K : Nat, k = K := ⟨k.toNat, by omega⟩
  have hK1 : 1 ≤ K := by omega
  have hK2 : K ≤ 255 := by omega
  rw [Int.toNat_natCast] at HP
  clear hk
  go_enter Tryd.func13, Tryd.ntmps13
  go_wp2_with fail
  have d1 : decide ((K : Int) < 1) = false := decide_eq_false (by omega)
  have d2 : decide ((255 : Int) < (K : Int)) = false := decide_eq_false (by omega)
  have d3 : decide ((65536 : Int) < (b.length : Int)) = false := decide_eq_false (by omega)
  rw [d1, d2, d3, Bool.or_false]
  clear d1 d2 d3
  have HK1 : Hid (Kp 0 0 w (w.alloc (.cells #[.int .i64 (K : Int), .slice ao b.length c] 24))) := (Kp.refl _ _ _).alloc _
  have cB : (w.alloc (.cells #[.int .i64 (K : Int), .slice ao b.length c] 24)).cell? ⟨w.heap.size, 1, none⟩ = some (.slice ao b.length c) := by simp
  have hs1 : (w.alloc (.cells #[.int .i64 (K : Int), .slice ao b.length c] 24)).heap.size = w.heap.size + 1 := by simp
  generalize w.alloc (.cells #[.int .i64 (K : Int), .slice ao b.length c] 24) = w1 at HK1 cB hs1 ⊢
  have HO : Hid ((w1.alloc (.cells #[.int .u8 (K : Int), .int .u8 ((b.length : Int) / 65536), .int .u8 ((b.length : Int) / 256 % 256), .int .u8 ((b.length : Int) % 256)] 5)).ownsRow w1.heap.size 5 1 (.slice (some ⟨w.heap.size + 1, 0, none⟩) 4 4) (4 + 0) ((ints (Fr.head K b.length ++ b.take 0)).map (.int .u8))) := by
    have h := own_lit (w := w1) (base := w1.heap.size) (n := 4) #[.int .u8 (K : Int), .int .u8 ((b.length : Int) / 65536), .int .u8 ((b.length : Int) / 256 % 256), .int .u8 ((b.length : Int) % 256)] 5 (Nat.le_refl _) rfl (by decide)
    show World.ownsRow _ _ _ _ _ _ _
    rw [hs1] at h ⊢
    simpa [ints, Fr.head] using h
  have HKA : Hid (Kp 0 0 w1 (w1.alloc (.cells #[.int .u8 (K : Int), .int .u8 ((b.length : Int) / 65536), .int .u8 ((b.length : Int) / 256 % 256), .int .u8 ((b.length : Int) % 256)] 5))) := (Kp.refl _ _ _).alloc _
  generalize w1.alloc (.cells #[.int .u8 (K : Int), .int .u8 ((b.length : Int) / 65536), .int .u8 ((b.length : Int) / 256 % 256), .int .u8 ((b.length : Int) % 256)] 5) = wa at HO HKA ⊢
  have CB := Lib.hid cB
  clear cB hs1
  obtain ⟨i0, hi, hz0, hz1, hz2⟩ := info_parts info_u8
  have HSN : Hid (∀ q, q < b.length → ints (Fr.head K b.length ++ b.take (q + 1)) = ints (Fr.head K b.length ++ b.take q) ++ [(b.getD q 0 : Int)]) := fun q hq => by
    rw [take_snoc_nat hq, ← List.append_assoc]
    simp [ints]
  go_loopw [5, 6] (fun v' i wr => ∃ q : Nat, q ≤ b.length ∧ i = .int .i64 q ∧ wr.ownsRow w1.heap.size 5 1 v' (4 + q) ((ints (Fr.head K b.length ++ b.take q)).map (.int .u8)) ∧ Kp 0 0 w1 wr) (fun _ i _ => b.length - (intOf i).toNat)
  case atStart => exact ⟨0, Nat.zero_le _, rfl, HO.out, HKA.out⟩
  case round =>
    obtain ⟨q, hq, rfl, hown, hkp⟩ := hrel
    by_cases hlt : q < b.length
    · obtain ⟨b1, o1, rfl, _, _, hc1⟩ := HCL.out (by rw [ints_len]; omega)
      have c1 := (HK1.out.trans hkp).cell (hc1 q (by rw [ints_len]; exact hlt)) (.inr (Nat.zero_le _))
      have cB := hkp.cell CB.out (.inr (Nat.zero_le _))
      have e : (ints b).getD q 0 = (b.getD q 0 : Int) := by simp [ints, List.getD, hlt]
      rw [e] at c1
      have HS := Lib.hid (HSN.out q hlt)
      clear hc1 e
      generalize b.getD q 0 = x at c1 HS
      have hsz := hkp.size
      go_wp2_with (at_builtin; refine wpList_append_own _ rfl _ _ 22 rfl w1.heap.size 5 i0 (.int .u8 0) 1 1 Tryd.underlying22 hi hz0 hz1 hz2 rfl (by decide) _ _ _ rfl (hown.alloc _) ⟨wr.heap.size, 0, none⟩ 1 1 [.int .u8 x] rfl rfl (cell_one _ _ _) (by simp [Value.oneCell']) ?c3 ?c4 ?c5 ?_)
      case c3 => unfold maxLen; omega
      case c4 => omega
      case c5 => simp; omega
      intro v' w2 hown' hg _
      have HK : Hid (Kp 0 0 w1 w2) := (hkp.alloc _).grown hg fun j hj => .inl ((hown.lt j hj).1)
      have HO := Lib.hid hown'
      clear hown' hg hown hkp
      go_wp2_with fail
      go_roundw
      case rel =>
        refine ⟨q + 1, by omega, by go_num, ?_, HK.out⟩
        have ho := HO.out
        rw [HS.out, List.map_append]
        simpa [Nat.add_assoc] using ho
      case measure => simp [intOf]; omega
    · obtain rfl : q = b.length := by omega
      rw [List.take_length] at hown
      have hln : (Fr.hb K b).length = 4 + b.length := by rw [Fr.hb_len]; omega
      have HB : Hid (∀ x ∈ Fr.hb K b, x < 256) := Fr.hb_byte (by omega) (by omega) rb
      have HOI : Hid (OwnI .u8 5 w1.heap.size wr.heap.size wr u5 (ints (Fr.hb K b))) := OwnI.of_rowN hown (by rw [ints_len]; exact hln)
      have HKP := Lib.hid hkp
      clear hown hkp
      go_wp2_with fail
      have hsum := refSum_any _ _ _ HOI.out.rd (ints_byte HB.out) (by rw [ints_len, hln]; omega)
      rw [nats_ints] at hsum
      refine hsum.mono ?_
      clear hsum
      rintro e w2 ⟨rfl, hk⟩
      have HO2 := Lib.hid (HOI.out.keep0 hk)
      have HK2 := Lib.hid (HKP.out.trans hk)
      have HSL := Fr.sum_lt (k := K) (b := b) (by omega) (by omega) rb
      have HSE : Hid (Fr.sum K b = Crc.more 0 (Fr.hb K b)) := rfl
      clear hk
      rw [← HSE.out]
      generalize hsg : Fr.sum K b = s at HSL ⊢
      have HSG := Lib.hid hsg
      clear hsg HSE
      have HL5 : Hid (RdI .u8 w2.heap.size (w2.heap.size + 1) (w2.alloc (.cells #[.int .u8 ((s : Int) / 16777216), .int .u8 ((s : Int) / 65536 % 256), .int .u8 ((s : Int) / 256 % 256), .int .u8 ((s : Int) % 256), .int .u8 10] 5)) (.slice (some ⟨w2.heap.size, 0, none⟩) 5 5) [(s : Int) / 16777216, (s : Int) / 65536 % 256, (s : Int) / 256 % 256, (s : Int) % 256, 10]) := lit_rd .u8 5 w2 [(s : Int) / 16777216, (s : Int) / 65536 % 256, (s : Int) / 256 % 256, (s : Int) % 256, 10] (by simp; decide)
      have HT5 : Hid (ints (Fr.tail K b) = [(s : Int) / 16777216, (s : Int) / 65536 % 256, (s : Int) / 256 % 256, (s : Int) % 256, 10]) := by
        show _ = _
        unfold Fr.tail
        rw [HSG.out]
        simp [ints, Fr.be4]
      have hoi := HO2.out.1
      have hln2 : (ints (Fr.hb K b)).length = 4 + b.length := by rw [ints_len]; exact hln
      rw [hln2] at hoi
      have hsz2 := HK2.out.size
      generalize hz : ([(s : Int) / 16777216, (s : Int) / 65536 % 256, (s : Int) / 256 % 256, (s : Int) % 256, 10] : List Int) = tl at HL5 HT5
      have htl : tl.length = 5 := by rw [← hz]; rfl
      clear hz
      go_wp2_with (at_builtin; refine wpList_app rfl _ _ 22 rfl w1.heap.size 5 .u8 1 Tryd.underlying22 info_u8 _ (4 + b.length) ((ints (Fr.hb K b)).map (.int .u8)) rfl (hoi.alloc _) _ rfl tl HL5.out ?c3 ?c4 ?c5 ?_)
      case c3 => rw [htl]; unfold maxLen; omega
      case c4 => rw [htl]; omega
      case c5 => simp; omega
      intro v' w3 hown' hg
      have HK3 : Hid (Kp 0 0 w1 w3) := (HK2.out.alloc _).grown hg fun j hj => .inl ((hoi.lt j hj).1)
      have HOF : Hid (OwnI .u8 5 w1.heap.size w3.heap.size w3 v' (ints (Fr.enc K b))) := by
        refine OwnI.of_rowN (n := 4 + b.length + tl.length) ?_ ?_
        · unfold Fr.enc
          rw [show ints (Fr.hb K b ++ Fr.tail K b) = ints (Fr.hb K b) ++ ints (Fr.tail K b) from List.map_append .., HT5.out, List.map_append]
          rw [htl]
          exact hown'
        · rw [ints_len, Fr.enc_len, htl]
          omega
      clear hown' hg hoi
      go_wp2_with fail
      go_returns
      rw [HP.out]
      exact ⟨_, rfl, HOF.out.wide HK1.out.size (Nat.le_refl _), HK1.out.trans HK3.out⟩

end Go.Proofs.YtpdkfafnffihjaaDoor
