/-
  CrcCuts as a contract.
-/
import Derived.Test.YtjbhbleooebdoaaDoorSaid
import Derived.Test.YtjbhbleooebdoaaDoorPick
namespace Go.Proofs.YtjbhbleooebdoaaDoor
open Go.RowKit

theorem RdI.suf2 {K : IntKind} {lo hi : Nat} {w : World} {ao : Option Addr} {c : Nat} {l : List Int} (h : RdI K lo hi w (.slice ao l.length c) l) {n : Nat} (hn : n ≤ l.length) : RdI K lo hi w (.slice (if c = n then ao else Option.map (fun x => x.add n) ao) (l.length - n) (c - n)) (l.drop n) := by
  by_cases hc : c = n
  · rw [if_pos hc]
    obtain ⟨ao', c', he, h2, _, _⟩ := h.open
    simp only [Value.slice.injEq] at he
    obtain ⟨_, _, rfl⟩ := he
    have h0 : c - n = 0 := by omega
    rw [h0]
    exact RdI.end (by omega)
  · rw [if_neg hc]
    exact h.suf hn

set_option maxHeartbeats 1000000 in
theorem cuts_any {h1 h2 : Nat} (s : Nat) (l : List Int) (cs : List Int) (w : World) (v vc : Value) (hs : s < 4294967296) (hl : RdI .u8 0 h1 w v l) (hb : ∀ y ∈ l, 0 ≤ y ∧ y < 256) (hc : RdI .i64 0 h2 w vc cs) (hr : ∀ y ∈ cs, -9223372036854775808 ≤ y ∧ y ≤ 9223372036854775807) (ht : Tabs w) :
    Calls Tryd.prog 4 #[.int .u32 s, v, vc] w fun e w' => e = .returned (.bool true) ∧ Kp 0 0 w w' := by
  have HSD := Lib.hid (said_any w ht)
  have HL := Lib.hid hl
  have HB := Lib.hid hb
  have HR := Lib.hid hr
  have HT := Lib.hid ht
  obtain ⟨ao, c, rfl, hl1, hl2, _⟩ := hl.open
  obtain ⟨aoc, cc, rfl, hc1, hc2, hcl⟩ := hc.open
  have HC := Lib.hid hcl
  clear hl hb hr ht hcl hc
  by_cases h12 : 4096 < l.length
  · go_enter Tryd.func4, Tryd.ntmps4
    go_wp2_with fail
    refine HSD.out.mono ?_
    rintro e w1 ⟨rfl, hk⟩
    go_wp2_with fail
    go_ret
    exact ⟨rfl, hk⟩
  · by_cases h100 : 100 < cs.length
    · go_enter Tryd.func4, Tryd.ntmps4
      go_wp2_with fail
      refine HSD.out.mono ?_
      rintro e w1 ⟨rfl, hk⟩
      go_wp2_with fail
      go_ret
      exact ⟨rfl, hk⟩
    · go_enter Tryd.func4, Tryd.ntmps4
      go_wp2_with fail
      have d1 : decide ((4096 : Int) < (l.length : Int)) = false := decide_eq_false (by omega)
      have d2 : decide ((100 : Int) < (cs.length : Int)) = false := decide_eq_false (by omega)
      rw [d1, d2, Bool.or_false]
      go_loopw [7, 8, 9] (fun lv sv i wr => ∃ (k : Nat) (ld : List Int) (S : Nat), k ≤ cs.length ∧ i = .int .i64 k ∧ ld.length ≤ 4096 ∧ RdI .u8 0 h1 wr lv ld ∧ Hid (∀ y ∈ ld, 0 ≤ y ∧ y < 256) ∧ sv = .int .u32 S ∧ S < 4294967296 ∧ Hid (Crc.more S (nats ld) = Crc.more s (nats l)) ∧ Kp 0 0 w wr) (fun _ _ i _ => cs.length - (intOf i).toNat)
      case atStart => exact ⟨0, l, s, Nat.zero_le _, rfl, by omega, HL.out, HB, rfl, hs, rfl, Kp.refl _ _ _⟩
      case round =>
        obtain ⟨k, ld, S, hk, rfl, hld, hlv, HLB, rfl, hS, HS, hkp⟩ := hrel
        have HLV := Lib.hid hlv
        have HKP := Lib.hid hkp
        obtain ⟨a1, c1, rfl, hll, hcc, _⟩ := hlv.open
        clear hlv
        by_cases hlt : k < cs.length
        · obtain ⟨b1, o1, rfl, _, _, hce⟩ := HC.out (by omega)
          have c2 := hkp.cell (hce k hlt) (.inr (Nat.zero_le _))
          have hx := HR.out _ (mem_getD hlt)
          clear hce hkp
          generalize cs.getD k 0 = x at c2 hx
          go_wp2_with fail
          refine (pick_any x 41 _ hx.1 hx.2 (by decide)).mono ?_
          rintro e w1 ⟨rfl, rfl⟩
          have hp := pick_range (k := x) (n := 41) (by decide)
          generalize pick x 41 = q at hp ⊢
          obtain ⟨Q, rfl⟩ := Int.eq_ofNat_of_zero_le hp.1
          clear hp
          have HS2 : ∀ n, n ≤ ld.length → Hid (Crc.more (Crc.more S (nats (ld.take n))) (nats (ld.drop n)) = Crc.more s (nats l)) := fun n hn => by
            show _ = _
            rw [← HS.out, ← Crc.more_append, ← nats_append, List.take_append_drop]
          have HPR : ∀ n, n ≤ ld.length → Hid (RdI .u8 0 h1 wr (.slice a1 n c1) (ld.take n)) := fun n hn => HLV.out.pre hn
          have HTB : ∀ n, Hid (∀ y ∈ ld.take n, 0 ≤ y ∧ y < 256) := fun n y hy => HLB.out y (List.mem_of_mem_take hy)
          by_cases hq : Q < ld.length
          · have hq' : ¬ (ld.length ≤ Q) := by omega
            go_wp2_with fail
            refine (more_any S (ld.take Q) _ _ hS (HPR Q (by omega)).out (HTB Q).out (HT.out.keep HKP.out)).mono ?_
            rintro e w1 ⟨rfl, hk1⟩
            have HK01 := Lib.hid hk1
            have HK1 := Lib.hid (HKP.out.trans hk1)
            clear hk1
            have hS2 : Crc.more S (nats (ld.take Q)) < 4294967296 := Crc.more_lt hS (nats_lt (HTB Q).out)
            have HS2 := HS2 Q (by omega)
            generalize Crc.more S (nats (ld.take Q)) = S2 at *
            go_wp2_with fail
            go_roundw
            case rel => exact ⟨k + 1, ld.drop Q, S2, by omega, by go_num, by rw [List.length_drop]; omega, (HLV.out.suf (by omega)).keep0 HK01.out, fun y hy => HLB.out y (List.mem_of_mem_drop hy), rfl, hS2, HS2, HK1.out⟩
            case measure => simp [intOf]; omega
          · have hq' : ¬ (Q < ld.length) := by omega
            have hq3 : (ld.length : Int) ≤ (Q : Int) := by omega
            go_wp2_with fail
            refine (more_any S (ld.take ld.length) _ _ hS (HPR ld.length (by omega)).out (HTB ld.length).out (HT.out.keep HKP.out)).mono ?_
            rintro e w1 ⟨rfl, hk1⟩
            have HK01 := Lib.hid hk1
            have HK1 := Lib.hid (HKP.out.trans hk1)
            clear hk1
            have hS2 : Crc.more S (nats (ld.take ld.length)) < 4294967296 := Crc.more_lt hS (nats_lt (HTB ld.length).out)
            have HS2 := HS2 ld.length (by omega)
            generalize Crc.more S (nats (ld.take ld.length)) = S2 at *
            go_wp2_with fail
            go_roundw
            case rel =>
              refine ⟨k + 1, ld.drop ld.length, S2, by omega, by go_num, by rw [List.length_drop]; omega, ?_, fun y hy => HLB.out y (List.mem_of_mem_drop hy), rfl, hS2, HS2, HK1.out⟩
              have := (HLV.out.suf2 (Nat.le_refl _)).keep0 HK01.out
              rwa [Nat.sub_self] at this
            case measure => simp [intOf]; omega
        · clear hkp
          go_wp2_with fail
          have hc := more_any S ld _ _ hS HLV.out HLB.out (HT.out.keep HKP.out)
          rw [HS.out] at hc
          refine hc.mono ?_
          clear hc
          rintro e w1 ⟨rfl, hk1⟩
          have HK1 := Lib.hid (HKP.out.trans hk1)
          clear hk1
          go_wp2_with fail
          refine (more_any s l _ _ hs (HL.out.keep0 HK1.out) HB.out (HT.out.keep HK1.out)).mono ?_
          rintro e w2 ⟨rfl, hk2⟩
          have HK2 := Lib.hid (HK1.out.trans hk2)
          clear hk2
          go_wp2_with fail
          refine (said_any _ (HT.out.keep HK2.out)).mono ?_
          rintro e w3 ⟨rfl, hk3⟩
          go_wp2_with fail
          go_ret
          exact ⟨rfl, HK2.out.trans hk3⟩

end Go.Proofs.YtjbhbleooebdoaaDoor
