/-
  CrcLine as a contract.
-/
import Derived.Test.YtjbhbleooebdoaaDoorSaid
import Derived.Test.YtjbhbleooebdoaaDoorMix
import Derived.Deep.RegionHeld3
import Derived.Deep.OwnRows
namespace Go.Proofs.YtjbhbleooebdoaaDoor
open Go.RowKit

/-- make([]byte, k), as it reads. -/
theorem made_rd (w : World) (k : Nat) (hk : k ≤ 100000) : RdI .u8 w.heap.size (w.heap.size + 1) (w.alloc (.cells (madeCells #[.int .u8 0] k) 5)) (.slice (some ⟨w.heap.size, 0, none⟩) k k) (List.replicate k 0) := by
  refine ⟨by simp, some ⟨w.heap.size, 0, none⟩, k, by rw [List.length_replicate], by simp, by unfold maxLen; omega, (fun h => by cases h), fun j u hu => ⟨w.heap.size, 0, rfl, Nat.le_refl _, by omega, ?_⟩⟩
  have hlt := (List.getElem?_eq_some_iff.1 hu).1
  simp only [List.length_map, List.length_replicate] at hlt
  rw [Nat.zero_add, (World.rowIs_made w (.int .u8 0) k 5).cell hlt]
  rw [← hu]
  simp [hlt]

theorem line_d (s : Nat) (b o : List Nat) : Crc.more s b ^^^ Crc.more s (mixN b o) = Crc.fold 0 (padN b.length o) := by
  rw [mixN_eq]
  exact Crc.line1 s b _ (padN_len _ _)

theorem line_f (s : Nat) (b o t : List Nat) : Crc.more s b ^^^ Crc.more s (mixN (mixN b o) t) = Crc.fold 0 (padN b.length o) ^^^ Crc.fold 0 (padN b.length t) := by
  rw [mixN_eq (mixN b o), mixN_len, mixN_eq b o, Crc.mix_assoc, Crc.line1 s b _ (by rw [Crc.mix_len _ _ (by rw [padN_len, padN_len]), padN_len]), Crc.line2 _ _ (by rw [padN_len, padN_len])]

theorem padN_byte {b : List Nat} (n : Nat) (hb : ∀ x ∈ b, x < 256) : ∀ x ∈ padN n b, x < 256 := by
  intro x hx
  obtain ⟨i, _, rfl⟩ := List.mem_map.1 hx
  exact getD_byte hb i

theorem xor_nat {a b z : Nat} (ha : a < 4294967296) (hb : b < 4294967296) (e : a ^^^ b = z) : bits .xor .u32 (a : Int) (b : Int) = (z : Int) := by
  rw [u32_xor_nat a b ha hb, e]

set_option maxRecDepth 100000 in
set_option maxHeartbeats 2000000 in
theorem line_any {h0 h1 h2 : Nat} (s : Nat) (lb l1 l2 : List Int) (w : World) (vb v1 v2 : Value) (hs : s < 4294967296) (hb : RdI .u8 0 h0 w vb lb) (h1 : RdI .u8 0 h1 w v1 l1) (h2 : RdI .u8 0 h2 w v2 l2) (rb : ∀ y ∈ lb, 0 ≤ y ∧ y < 256) (r1 : ∀ y ∈ l1, 0 ≤ y ∧ y < 256) (r2 : ∀ y ∈ l2, 0 ≤ y ∧ y < 256) (hT : Tabs w) :
    Calls Tryd.prog 5 #[.int .u32 s, vb, v1, v2] w fun e w' => e = .returned (.bool true) ∧ Kp 0 0 w w' := by
  obtain ⟨ao, ca, rfl, hb1, hb2, _⟩ := hb.open
  obtain ⟨bo, cb, rfl, _, _, _⟩ := h1.open
  obtain ⟨co, cc, rfl, _, _, _⟩ := h2.open
  have HB := Lib.hid hb
  have H1 := Lib.hid h1
  have H2 := Lib.hid h2
  have RB := Lib.hid rb
  have R1 := Lib.hid r1
  have R2 := Lib.hid r2
  have HT := Lib.hid hT
  clear hb h1 h2 rb r1 r2 hT
  by_cases h12 : 4096 < lb.length
  · go_enter Tryd.func5, Tryd.ntmps5
    go_wp2_with fail
    refine (said_any w HT.out).mono ?_
    rintro e w1 ⟨rfl, hk⟩
    go_wp2_with fail
    go_ret
    exact ⟨rfl, hk⟩
  · have hmk := run_make_row' (P := Tryd.prog) 23 5 (.int .u8 0) 1 Tryd.underlying23 info_u8 rfl .i64 .i64 lb.length (by omega) (by omega) w
    have NB := Lib.hid (nats_lt RB.out)
    have N1 := Lib.hid (nats_lt R1.out)
    have N2 := Lib.hid (nats_lt R2.out)
    have NX := Lib.hid (mixN_byte NB.out N1.out)
    have NY := Lib.hid (mixN_byte NB.out N2.out)
    have NZ := Lib.hid (mixN_byte NX.out N2.out)
    have NO : Hid (∀ y ∈ List.replicate lb.length (0 : Int), 0 ≤ y ∧ y < 256) := fun y hy => by rw [(List.mem_replicate.1 hy).2]; omega
    have NV := Lib.hid (mixN_byte (nats_lt NO.out) N1.out)
    have ed := xor_nat (Crc.more_lt hs NB.out) (Crc.more_lt hs NX.out) (line_d s (nats lb) (nats l1))
    have ee := xor_nat (Crc.more_lt hs NB.out) (Crc.more_lt hs NY.out) (line_d s (nats lb) (nats l2))
    have ef := xor_nat (Crc.more_lt hs NB.out) (Crc.more_lt hs NZ.out) (line_f s (nats lb) (nats l1) (nats l2))
    have eg := xor_nat (Crc.more_lt (s := 0) (by decide) (nats_lt NO.out)) (Crc.more_lt (s := 0) (by decide) NV.out) (line_d 0 (nats (List.replicate lb.length 0)) (nats l1))
    rw [nats_len, List.length_replicate] at eg
    rw [nats_len] at ed ee ef
    have hD := Crc.fold_lt (r := 0) (by decide) (padN_byte lb.length N1.out)
    have hE := Crc.fold_lt (r := 0) (by decide) (padN_byte lb.length N2.out)
    generalize Crc.fold 0 (padN lb.length (nats l1)) = D at *
    generalize Crc.fold 0 (padN lb.length (nats l2)) = E at *
    have eh := xor_nat hD hE rfl
    generalize D ^^^ E = F at ef eh
    clear hD hE
    go_enter Tryd.func5, Tryd.ntmps5
    go_wp2_with fail
    have HZ := Lib.hid (made_rd w lb.length (by omega))
    have HK0 : Hid (Kp 0 0 w (w.alloc (.cells (madeCells #[.int .u8 0] lb.length) 5))) := (Kp.refl 0 0 w).alloc _
    generalize w.alloc (.cells (madeCells #[.int .u8 0] lb.length) 5) = w0 at HZ HK0 ⊢
    clear hmk
    refine (mix_any _ _ _ _ _ (HB.out.keep0 HK0.out) (H1.out.keep0 HK0.out) RB.out R1.out (by omega)).mono ?_
    rintro e w1 ⟨vx, rfl, hown, hk⟩
    obtain ⟨aox, cx, rfl, _, _, _⟩ := hown.rd.open
    have HX : Hid (RdI .u8 w0.heap.size w1.heap.size w1 _ _) := hown.rd
    have HZ1 := Lib.hid (HZ.out.keep0 hk)
    have HK1 := Lib.hid (HK0.out.trans hk)
    clear hown hk
    go_wp2_with fail
    refine (mix_any _ _ _ _ _ (HB.out.keep0 HK1.out) (H2.out.keep0 HK1.out) RB.out R2.out (by omega)).mono ?_
    rintro e w2 ⟨vy, rfl, hown, hk⟩
    obtain ⟨aoy, cy, rfl, _, _, _⟩ := hown.rd.open
    have HY : Hid (RdI .u8 w1.heap.size w2.heap.size w2 _ _) := hown.rd
    have HX2 := Lib.hid (HX.out.keep0 hk)
    have HZ2 := Lib.hid (HZ1.out.keep0 hk)
    have HK2 := Lib.hid (HK1.out.trans hk)
    clear hown hk
    go_wp2_with fail
    have hm := mix_any _ _ _ _ _ HX2.out (H2.out.keep0 HK2.out) (ints_byte NX.out) R2.out (by rw [ints_len, mixN_len, nats_len]; omega)
    rw [nats_ints] at hm
    refine hm.mono ?_
    clear hm
    rintro e w3 ⟨vz, rfl, hown, hk⟩
    obtain ⟨aoz, cz, rfl, _, _, _⟩ := hown.rd.open
    have HZZ : Hid (RdI .u8 w2.heap.size w3.heap.size w3 _ _) := hown.rd
    have HX3 := Lib.hid (HX2.out.keep0 hk)
    have HY3 := Lib.hid (HY.out.keep0 hk)
    have HZ3 := Lib.hid (HZ2.out.keep0 hk)
    have HK3 := Lib.hid (HK2.out.trans hk)
    clear hown hk
    have HR3 : Hid (Kp 0 0 w3 w3) := Kp.refl _ _ _
    go_wp2_with fail
    refine (more_any s _ _ _ hs (HB.out.keep0 HK3.out) RB.out (HT.out.keep HK3.out)).mono ?_
    rintro e w4 ⟨rfl, hk⟩
    have HK4 := Lib.hid (HK3.out.trans hk)
    have HR4 := Lib.hid (HR3.out.trans hk)
    clear hk
    go_wp2_with fail
    refine (more_ints s _ _ _ hs (HX3.out.keep0 HR4.out) NX.out (HT.out.keep HK4.out)).mono ?_
    rintro e w5 ⟨rfl, hk⟩
    have HK5 := Lib.hid (HK4.out.trans hk)
    have HR5 := Lib.hid (HR4.out.trans hk)
    clear hk
    go_wp2_with fail
    refine (more_any s _ _ _ hs (HB.out.keep0 HK5.out) RB.out (HT.out.keep HK5.out)).mono ?_
    rintro e w6 ⟨rfl, hk⟩
    have HK6 := Lib.hid (HK5.out.trans hk)
    have HR6 := Lib.hid (HR5.out.trans hk)
    clear hk
    go_wp2_with fail
    refine (more_ints s _ _ _ hs (HY3.out.keep0 HR6.out) NY.out (HT.out.keep HK6.out)).mono ?_
    rintro e w7 ⟨rfl, hk⟩
    have HK7 := Lib.hid (HK6.out.trans hk)
    have HR7 := Lib.hid (HR6.out.trans hk)
    clear hk
    go_wp2_with fail
    refine (more_any s _ _ _ hs (HB.out.keep0 HK7.out) RB.out (HT.out.keep HK7.out)).mono ?_
    rintro e w8 ⟨rfl, hk⟩
    have HK8 := Lib.hid (HK7.out.trans hk)
    have HR8 := Lib.hid (HR7.out.trans hk)
    clear hk
    go_wp2_with fail
    refine (more_ints s _ _ _ hs (HZZ.out.keep0 HR8.out) NZ.out (HT.out.keep HK8.out)).mono ?_
    rintro e w9 ⟨rfl, hk⟩
    have HK9 := Lib.hid (HK8.out.trans hk)
    have HR9 := Lib.hid (HR8.out.trans hk)
    clear hk
    go_wp2_with fail
    refine (sum_any _ _ _ (HZ3.out.keep0 HR9.out) NO.out (HT.out.keep HK9.out)).mono ?_
    rintro e w10 ⟨rfl, hk⟩
    have HK10 := Lib.hid (HK9.out.trans hk)
    have HR10 := Lib.hid (HR9.out.trans hk)
    clear hk
    go_wp2_with fail
    refine (mix_any _ _ _ _ _ (HZ3.out.keep0 HR10.out) (H1.out.keep0 HK10.out) NO.out R1.out (by rw [List.length_replicate]; omega)).mono ?_
    rintro e w11 ⟨vm, rfl, hown, hk⟩
    obtain ⟨aom, cm, rfl, _, _, _⟩ := hown.rd.open
    have HM : Hid (RdI .u8 w10.heap.size w11.heap.size w11 _ _) := hown.rd
    have HK11 := Lib.hid (HK10.out.trans hk)
    clear hown hk
    go_wp2_with fail
    refine (sum_ints _ _ _ HM.out NV.out (HT.out.keep HK11.out)).mono ?_
    rintro e w12 ⟨rfl, hk⟩
    have HK12 := Lib.hid (HK11.out.trans hk)
    clear hk
    go_wp2_with fail
    refine (said_any _ (HT.out.keep HK12.out)).mono ?_
    rintro e w13 ⟨rfl, hk⟩
    have HK13 := Lib.hid (HK12.out.trans hk)
    clear hk
    go_wp2_with fail
    go_ret
    exact ⟨rfl, HK13.out⟩

end Go.Proofs.YtjbhbleooebdoaaDoor
