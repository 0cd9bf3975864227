/-
  FrameSums as a contract, where Put and Get keep the document.
-/
import Derived.Test.YtpdkfafnffihjaaDoorFSpec
import Derived.Test.YtpdkfafnffihjaaDoorFr2
import Derived.Test.YtpdkfafnffihjaaDoorPick
import Derived.Test.YtpdkfafnffihjaaDoorRow8
import Derived.PlainAid
namespace Go.Proofs.YtpdkfafnffihjaaDoor
open Go.RowKit

set_option maxRecDepth 100000 in
set_option maxHeartbeats 2000000 in
theorem sums_any {h1 : Nat} (HP : PutOk) (HG : GetOk) (kd at0 : Int) (y : Nat) (b : List Nat) (w : World) (v : Value) (a1 : -9223372036854775808 ≤ kd) (a2 : kd ≤ 9223372036854775807) (a3 : -9223372036854775808 ≤ at0) (a4 : at0 ≤ 9223372036854775807) (by' : y < 256) (hr : RdI .u8 0 h1 w v (ints b)) (rb : ∀ x ∈ b, x < 256) (ht : Tabs w) :
    Calls Tryd.prog 7 #[.int .i64 kd, v, .int .i64 at0, .int .u8 y] w fun e w' => e = .returned (.bool true) ∧ Kp 0 0 w w' := by
  obtain ⟨ao, c, rfl, hb1, hb2, _⟩ := hr.open
  rw [ints_len] at hb1 hr ⊢
  have HR := Lib.hid hr
  have RB := Lib.hid rb
  have HT := Lib.hid ht
  clear hr rb ht
  by_cases h12 : 500 < b.length
  · go_enter Tryd.func7, Tryd.ntmps7
    go_wp2_with fail
    refine (shown_any HP HG _ HT.out).mono ?_
    rintro e w1 ⟨rfl, hk⟩
    go_wp2_with fail
    go_returns
    exact ⟨rfl, hk⟩
  go_enter Tryd.func7, Tryd.ntmps7
  go_wp2_with fail
  refine (pick_any kd 255 _ a1 a2 (by decide)).mono ?_
  rintro e w1 ⟨rfl, rfl⟩
  have hp := pick_range (k := kd) (n := 255) (by decide)
  generalize pick kd 255 = q at hp ⊢
  obtain ⟨Q, rfl⟩ := Int.eq_ofNat_of_zero_le hp.1
  have hQ : Q < 255 := by omega
  clear hp
  go_wp2_with fail
  have HKF : Hid (Kp 0 0 w (w.alloc (.cells #[.int .i64 (1 + (Q : Int)), .slice ao b.length c] 24))) := (Kp.refl _ _ _).alloc _
  have hput := HP _ _ (1 + (Q : Int)) b _ _ (HR.out.keep0 HKF.out) RB.out ⟨by omega, by omega⟩ (HT.out.keep HKF.out)
  have hkk : ¬ ((1 + (Q : Int)) < 1 ∨ 255 < (1 + (Q : Int))) := by omega
  have hbb : ¬ 65536 < b.length := by omega
  have hnn : (1 + (Q : Int)).toNat = Q + 1 := by omega
  rw [put_good hkk hbb, hnn] at hput
  clear hkk hbb hnn
  refine hput.mono ?_
  clear hput
  rintro e w2 ⟨v2, rfl, hown, hk⟩
  have hel := Fr.enc_len (Q + 1) b
  have HBY : Hid (∀ x ∈ Fr.enc (Q + 1) b, x < 256) := Fr.enc_byte (by omega) (by omega) RB.out
  obtain ⟨g, cap, rfl, hg1, hg2, hcp, hcm, hrow⟩ := hown.row8 (by show 0 < (Fr.enc (Q + 1) b).length; omega)
  rw [hel] at hcp ⊢
  have HO := Lib.hid hown.rd
  have HROW := Lib.hid hrow
  have HK2 := Lib.hid (HKF.out.trans hk)
  clear hown hk hrow
  go_wp2_with fail
  have HB4 : Hid (∀ x ∈ Fr.hb (Q + 1) b, x < 256) := Fr.hb_byte (by omega) (by omega) RB.out
  have hpre : RdI .u8 w.heap.size w2.heap.size w2 (.slice (some ⟨g, 0, none⟩) (b.length + 4) cap) (ints (Fr.hb (Q + 1) b)) := by
    have h := HROW.out.rd (cap := cap) (by rw [hel]; exact hcp) hcm
    rw [← ints_len (Fr.enc (Q + 1) b)] at h
    have h2 := (h.pre (n := b.length + 4) (by rw [ints_len, hel]; omega)).wide (lo' := w.heap.size) (hi' := w2.heap.size) (Nat.le_trans HKF.out.size hg1) hg2
    have e : (ints (Fr.enc (Q + 1) b)).take (b.length + 4) = ints (Fr.hb (Q + 1) b) := by
      unfold ints Fr.enc
      rw [← List.map_take, ← Fr.hb_len (Q + 1) b, List.take_left]
    rwa [e] at h2
  refine (sum_ints _ _ _ hpre HB4.out (HT.out.keep HK2.out)).mono ?_
  rintro e w3 ⟨rfl, hk3⟩
  have HSL := Fr.sum_lt (k := Q + 1) (b := b) (by omega) (by omega) RB.out
  have HTL : Hid (∀ j, j < 5 → (Fr.enc (Q + 1) b).getD (b.length + 4 + j) 0 = (Fr.tail (Q + 1) b).getD j 0) := fun j hj => by
    unfold Fr.enc
    rw [← Fr.hb_len (Q + 1) b]
    simp [List.getD, List.getElem?_append_right]
  have HT0 : Hid ((Fr.tail (Q + 1) b).getD 0 0 = Fr.sum (Q + 1) b / 16777216) := rfl
  have HT1 : Hid ((Fr.tail (Q + 1) b).getD 1 0 = Fr.sum (Q + 1) b / 65536 % 256) := rfl
  have HT2 : Hid ((Fr.tail (Q + 1) b).getD 2 0 = Fr.sum (Q + 1) b / 256 % 256) := rfl
  have HT3 : Hid ((Fr.tail (Q + 1) b).getD 3 0 = Fr.sum (Q + 1) b % 256) := rfl
  have HT4 : Hid ((Fr.tail (Q + 1) b).getD 4 0 = 10) := rfl
  have hrow3 := HROW.out.keep hk3 (.inr (Nat.zero_le _))
  have hc : ∀ j, j < 5 → w3.cell? ⟨g, b.length + 4 + j, none⟩ = some (.int .u8 ((Fr.tail (Q + 1) b).getD j 0 : Nat)) := fun j hj => by
    rw [← HTL.out j hj]
    exact (hrow3.cell (by rw [hel]; omega)).1
  have c0 := hc 0 (by decide)
  have c1 := hc 1 (by decide)
  have c2 := hc 2 (by decide)
  have c3 := hc 3 (by decide)
  have c4 := hc 4 (by decide)
  rw [HT0.out, Nat.add_zero] at c0
  rw [HT1.out] at c1
  rw [HT2.out] at c2
  rw [HT3.out] at c3
  rw [HT4.out] at c4
  have HSE : Hid (Crc.more 0 (Fr.hb (Q + 1) b) = Fr.sum (Q + 1) b) := rfl
  rw [HSE.out]
  have HK3 := Lib.hid (HK2.out.trans hk3)
  have HROW3 := Lib.hid hrow3
  clear hc hrow3 hpre hk3
  generalize Fr.sum (Q + 1) b = s at c0 c1 c2 c3 HSL ⊢
  by_cases hy : y = 0
  · have hyb : ((y : Int) == 0) = true := by simp [hy]
    clear hy
    go_wp2_with fail
    refine (shown_any HP HG _ (HT.out.keep HK3.out)).mono ?_
    rintro e w4 ⟨rfl, hk4⟩
    go_wp2_with fail
    go_returns
    exact ⟨rfl, HK3.out.trans hk4⟩
  have hyb : ((y : Int) == 0) = false := beq_eq_false_iff_ne.2 (by omega)
  go_wp2_with fail
  refine (pick_any at0 5 _ a3 a4 (by decide)).mono ?_
  rintro e w4 ⟨rfl, rfl⟩
  have hp := pick_range (k := at0) (n := 5) (by decide)
  generalize pick at0 5 = q at hp ⊢
  obtain ⟨I, rfl⟩ := Int.eq_ofNat_of_zero_le hp.1
  have hI : I < 5 := by omega
  clear hp
  obtain ⟨cI, fI⟩ := HROW3.out.cell (k := b.length + 4 + I) (by rw [hel]; omega)
  have HXB := getD_byte HBY.out (b.length + 4 + I)
  have HGF : Hid (∀ x, x ≠ (Fr.enc (Q + 1) b).getD (b.length + 4 + I) 0 → Fr.get ((Fr.enc (Q + 1) b).set (b.length + 4 + I) x) = (0, [], 0, 6)) := fun x hx => Fr.get_flip (by omega) (by omega) hI hx
  generalize (Fr.enc (Q + 1) b).getD (b.length + 4 + I) 0 = X at cI HXB HGF
  have e1 := u8_xor_nat X y HXB by'
  have HZ := byte_xor HXB by'
  have HZX : Hid (X ^^^ y ≠ X) := fun h => hy (by
    have := Crc.xss X y
    rw [h, Nat.xor_self] at this
    exact this.symm)
  generalize X ^^^ y = Z at e1 HZ HZX
  clear c0 c1 c2 c3 c4
  go_wp2_with fail
  have hset := HROW3.out.set (b.length + 4 + I) Z
  have hg0 : w.heap.size ≤ g := Nat.le_trans HKF.out.size hg1
  have HKS : Hid (Kp 0 0 w (w3.setCell ⟨g, b.length + 4 + I, none⟩ (.int .u8 (Z : Int)))) := HK3.out.setCell (.inl hg0) _
  have hlen : ((Fr.enc (Q + 1) b).set (b.length + 4 + I) Z).length = b.length + 9 := by rw [List.length_set, hel]
  have HBS : Hid (∀ x ∈ (Fr.enc (Q + 1) b).set (b.length + 4 + I) Z, x < 256) := fun x hx => by
    rcases List.mem_or_eq_of_mem_set hx with h | h
    · exact HBY.out x h
    · rw [h]; exact HZ
  have hrd := hset.rd (cap := cap) (by rw [hlen]; exact hcp) hcm
  rw [hlen] at hrd
  have hget := HG _ _ _ _ _ hrd HBS.out (HT.out.keep HKS.out)
  rw [HGF.out Z HZX.out] at hget
  refine hget.mono ?_
  clear hget hset hrd
  rintro e w5 ⟨v5, rfl, hown5, hk5⟩
  obtain ⟨a5, c5, rfl, _, _, _⟩ := hown5.rd.open
  have HK5 := Lib.hid (HKS.out.trans hk5)
  clear hown5 hk5
  go_wp2_with fail
  refine (shown_any HP HG _ (HT.out.keep (HK5.out.alloc _))).mono ?_
  rintro e w6 ⟨rfl, hk6⟩
  go_wp2_with fail
  go_returns
  exact ⟨rfl, (HK5.out.alloc _).trans hk6⟩

end Go.Proofs.YtpdkfafnffihjaaDoor
