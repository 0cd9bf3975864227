/-
  mix: the bytes of one list with the bits of another one turned, as many as the first one has.
-/
import Derived.Test.YtjbhbleooebdoaaDoorMore
import Derived.Test.YtjbhbleooebdoaaDoorKit
namespace Go.Proofs.YtjbhbleooebdoaaDoor
open Go.RowKit

def ints (l : List Nat) : List Int := l.map fun (x : Nat) => (x : Int)

theorem nats_ints (l : List Nat) : nats (ints l) = l := by
  simp [nats, ints, Function.comp_def]

theorem ints_len (l : List Nat) : (ints l).length = l.length := List.length_map _

theorem ints_byte {l : List Nat} (h : ∀ x ∈ l, x < 256) : ∀ y ∈ ints l, 0 ≤ y ∧ y < 256 := by
  intro y hy
  obtain ⟨x, hx, rfl⟩ := List.mem_map.1 hy
  have := h x hx
  omega

theorem ints_nats {l : List Int} (h : ∀ y ∈ l, 0 ≤ y ∧ y < 256) : ints (nats l) = l := by
  unfold ints nats
  rw [List.map_map]
  conv => rhs; rw [← List.map_id l]
  refine List.map_congr_left fun y hy => ?_
  have := h y hy
  simp
  omega

theorem more_ints {l1 h1 : Nat} (s : Nat) (l : List Nat) (w : World) (v : Value) (hs : s < 4294967296) (hl : RdI .u8 l1 h1 w v (ints l)) (hb : ∀ x ∈ l, x < 256) (ht : Tabs w) :
    Calls Tryd.prog 13 #[.int .u32 s, v] w fun e w' => e = .returned (.int .u32 (Crc.more s l : Nat)) ∧ Kp 0 0 w w' := by
  have h := more_any s (ints l) w v hs hl (ints_byte hb) ht
  rwa [nats_ints] at h

theorem sum_ints {l1 h1 : Nat} (l : List Nat) (w : World) (v : Value) (hl : RdI .u8 l1 h1 w v (ints l)) (hb : ∀ x ∈ l, x < 256) (ht : Tabs w) :
    Calls Tryd.prog 11 #[v] w fun e w' => e = .returned (.int .u32 (Crc.more 0 l : Nat)) ∧ Kp 0 0 w w' := by
  have h := sum_any (ints l) w v hl (ints_byte hb) ht
  rwa [nats_ints] at h

def mixN (a b : List Nat) : List Nat := (List.range a.length).map fun i => a.getD i 0 ^^^ b.getD i 0

theorem mixN_len (a b : List Nat) : (mixN a b).length = a.length := by simp [mixN]

theorem mixN_snoc (a b : List Nat) {k : Nat} (h : k < a.length) : (mixN a b).take (k + 1) = (mixN a b).take k ++ [a.getD k 0 ^^^ b.getD k 0] := by
  have hl : k < (mixN a b).length := by rw [mixN_len]; exact h
  rw [List.take_succ_eq_append_getElem hl]
  congr 1
  simp [mixN]

theorem byte_xor {x y : Nat} (hx : x < 256) (hy : y < 256) : x ^^^ y < 256 := by
  have : x ^^^ y < 2 ^ 8 := Nat.xor_lt_two_pow (by omega) (by omega)
  omega

theorem getD_byte {l : List Nat} (h : ∀ x ∈ l, x < 256) (i : Nat) : l.getD i 0 < 256 := by
  by_cases hi : i < l.length
  · have : l.getD i 0 ∈ l := by simp [List.getD, hi]
    exact h _ this
  · simp [List.getD, Nat.le_of_not_lt hi]

theorem mixN_byte {a b : List Nat} (ha : ∀ x ∈ a, x < 256) (hb : ∀ x ∈ b, x < 256) : ∀ x ∈ mixN a b, x < 256 := by
  intro x hx
  obtain ⟨i, _, rfl⟩ := List.mem_map.1 hx
  exact byte_xor (getD_byte ha i) (getD_byte hb i)

/-- A list brought to a length, with noughts. -/
def padN (n : Nat) (b : List Nat) : List Nat := (List.range n).map fun i => b.getD i 0

theorem padN_len (n : Nat) (b : List Nat) : (padN n b).length = n := by simp [padN]

theorem mixN_eq (a b : List Nat) : mixN a b = Crc.mixL a (padN a.length b) := by
  refine List.ext_getElem (by simp [mixN, Crc.mixL, padN]) fun i h1 h2 => ?_
  have hi : i < a.length := by simpa [mixN] using h1
  simp [mixN, Crc.mixL, padN, List.getD, hi]

set_option maxHeartbeats 800000 in
theorem mix_any {l1 h1 l2 h2 : Nat} (la lb : List Int) (w : World) (va vb : Value) (ha : RdI .u8 l1 h1 w va la) (hb : RdI .u8 l2 h2 w vb lb) (ra : ∀ y ∈ la, 0 ≤ y ∧ y < 256) (rb : ∀ y ∈ lb, 0 ≤ y ∧ y < 256) (hl : la.length ≤ 140737488351232) :
    Calls Tryd.prog 17 #[va, vb] w fun e w' => ∃ v', e = .returned v' ∧ OwnI .u8 5 w.heap.size w'.heap.size w' v' (ints (mixN (nats la) (nats lb))) ∧ Kp 0 0 w w' := by
  obtain ⟨ao, ca, rfl, _, _, hca⟩ := ha.open
  obtain ⟨bo, cb, rfl, hb1, hb2, hcb⟩ := hb.open
  obtain ⟨i0, hi, hz0, hz1, hz2⟩ := info_parts info_u8
  have HA := Lib.hid hca
  have HB := Lib.hid hcb
  have RA := Lib.hid ra
  have RB := Lib.hid rb
  have hmb : lb.length ≤ 9223372036854775807 := by omega
  have HF : Hid (∀ (v' : Value) (w' : World), w'.ownsRow w.heap.size 5 1 v' la.length ((ints ((mixN (nats la) (nats lb)).take la.length)).map (.int .u8)) → OwnI .u8 5 w.heap.size w'.heap.size w' v' (ints (mixN (nats la) (nats lb)))) := fun v' w' h => by
    have hlen : (mixN (nats la) (nats lb)).length = la.length := by rw [mixN_len, nats_len]
    rw [← hlen, List.take_length] at h
    exact OwnI.of_rowN h (by rw [ints_len])
  clear ha hb hca hcb ra rb hb1 hb2
  go_enter Tryd.func17, Tryd.ntmps17
  go_wp2_with fail
  go_loopw [5, 6] (fun v' i wr => ∃ k : Nat, k ≤ la.length ∧ i = .int .i64 k ∧ wr.ownsRow w.heap.size 5 1 v' k ((ints ((mixN (nats la) (nats lb)).take k)).map (.int .u8)) ∧ Kp 0 0 w wr) (fun _ i _ => la.length - (intOf i).toNat)
  case atStart => exact ⟨0, Nat.zero_le _, rfl, World.ownsRow_nil _ _ _ _, Kp.refl _ _ _⟩
  case round =>
    obtain ⟨k, hk, rfl, hown, hkp⟩ := hrel
    by_cases hlt : k < la.length
    · obtain ⟨b1, o1, rfl, _, _, hc1⟩ := HA.out (by omega)
      have c1 := hkp.cell (hc1 k hlt) (.inr (Nat.zero_le _))
      have hx := RA.out _ (mem_getD hlt)
      have HS := Lib.hid (mixN_snoc (nats la) (nats lb) (k := k) (by rw [nats_len]; exact hlt))
      rw [nats_getD hlt] at HS
      clear hc1
      generalize la.getD k 0 = x at c1 hx HS
      obtain ⟨X, rfl⟩ := Int.eq_ofNat_of_zero_le hx.1
      have hX : X < 256 := by omega
      clear hx
      rw [Int.toNat_natCast] at HS
      have hsz := hkp.size
      by_cases hly : k < lb.length
      · obtain ⟨b2, o2, rfl, _, _, hc2⟩ := HB.out (by omega)
        have c2 := hkp.cell (hc2 k hly) (.inr (Nat.zero_le _))
        have hy := RB.out _ (mem_getD hly)
        rw [nats_getD hly] at HS
        clear hc2
        generalize lb.getD k 0 = y at c2 hy HS
        obtain ⟨Y, rfl⟩ := Int.eq_ofNat_of_zero_le hy.1
        have hY : Y < 256 := by omega
        clear hy
        rw [Int.toNat_natCast] at HS
        have e1 := u8_xor_nat X Y hX hY
        have hZ := byte_xor hX hY
        generalize X ^^^ Y = Z at e1 HS hZ
        go_wp2_with (at_builtin; refine wpList_append_own _ rfl _ _ 23 rfl w.heap.size 5 i0 (.int .u8 0) 1 1 Tryd.underlying23 hi hz0 hz1 hz2 rfl (by decide) _ _ _ rfl (hown.alloc _) ⟨wr.heap.size, 0, none⟩ 1 1 [.int .u8 Z] rfl rfl (cell_one _ _ _) (by simp [Value.oneCell']) ?c3 ?c4 ?c5 ?_)
        case c3 => unfold maxLen; omega
        case c4 => omega
        case c5 => simp; omega
        intro v' w1 hown' hg _
        have HK : Hid (Kp 0 0 w w1) := (hkp.alloc _).grown hg fun j hj => .inl ((hown.lt j hj).1)
        have HO := Lib.hid hown'
        clear hown' hg hown hkp
        go_wp2_with fail
        go_roundw
        case rel =>
          refine ⟨k + 1, by omega, by go_num, ?_, HK.out⟩
          have ho := HO.out
          rw [HS.out]
          unfold ints at ho ⊢
          simpa using ho
        case measure => simp [intOf]; omega
      · have hz : (nats lb).getD k 0 = 0 := by simp [List.getD, nats_len, Nat.le_of_not_lt hly]
        rw [hz, Nat.xor_zero] at HS
        clear hz
        go_wp2_with (at_builtin; refine wpList_append_own _ rfl _ _ 23 rfl w.heap.size 5 i0 (.int .u8 0) 1 1 Tryd.underlying23 hi hz0 hz1 hz2 rfl (by decide) _ _ _ rfl (hown.alloc _) ⟨wr.heap.size, 0, none⟩ 1 1 [.int .u8 X] rfl rfl (cell_one _ _ _) (by simp [Value.oneCell']) ?c3 ?c4 ?c5 ?_)
        case c3 => unfold maxLen; omega
        case c4 => omega
        case c5 => simp; omega
        intro v' w1 hown' hg _
        have HK : Hid (Kp 0 0 w w1) := (hkp.alloc _).grown hg fun j hj => .inl ((hown.lt j hj).1)
        have HO := Lib.hid hown'
        clear hown' hg hown hkp
        go_wp2_with fail
        go_roundw
        case rel =>
          refine ⟨k + 1, by omega, by go_num, ?_, HK.out⟩
          have ho := HO.out
          rw [HS.out]
          unfold ints at ho ⊢
          simpa using ho
        case measure => simp [intOf]; omega
    · obtain rfl : k = la.length := by omega
      go_wp2_with fail
      go_ret
      exact ⟨_, rfl, HF.out _ _ hown, hkp⟩

end Go.Proofs.YtjbhbleooebdoaaDoor
