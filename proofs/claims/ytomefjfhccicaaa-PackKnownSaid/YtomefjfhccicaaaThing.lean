/-
  A slice of things (numbers and rows), and what package quaysidelaw01 makes of it: long, laid, is.
-/
import Derived.Test.YtomefjfhccicaaaReader
import Derived.Test.YtomefjfhccicaaaKit2
import Derived.Test.YtomefjfhccicaaaPlain2
import Derived.Deep.RegionHeld3
namespace Go.Proofs.Ytomefjfhccicaaa
open Go.RowKit

/-- Things: is it a row, its number, its bytes; V: the bytes' values. -/
structure Ths where
  R : Nat → Bool
  N : Nat → Int
  B : Nat → List Int
  V : Nat → Value

/-- The cells of a slice of things. -/
def ClT (hi : Nat) (w : World) (ao : Option Addr) (n : Nat) (T : Ths) : Prop :=
  0 < n → ∃ b off, ao = some ⟨b, off, none⟩ ∧ b < hi ∧ ∀ i, i < n → w.cell? ⟨b, off + i * 3, none⟩ = some (.bool (T.R i)) ∧ w.cell? ⟨b, off + i * 3 + 1, none⟩ = some (.int .i64 (T.N i)) ∧ w.cell? ⟨b, off + i * 3 + 2, none⟩ = some (T.V i)

/-- The things' bytes. -/
def RdV (hi : Nat) (w : World) (n : Nat) (T : Ths) : Prop := ∀ i, i < n → RdI .u8 0 hi w (T.V i) (T.B i)

/-- Each number is one; each byte is one; no row is longer than there is memory. -/
def InT (n : Nat) (T : Ths) : Prop := ∀ i, i < n → (-9223372036854775808 ≤ T.N i ∧ T.N i ≤ 9223372036854775807) ∧ (∀ y ∈ T.B i, 0 ≤ y ∧ y < 256) ∧ (T.B i).length ≤ 140737488351232

theorem ClT.keep {hi lo' hi' : Nat} {w w' : World} {ao : Option Addr} {n : Nat} {T : Ths} (h : ClT hi w ao n T) (hk : Kp lo' hi' w w') (hd : ∀ b, b < hi → b < lo' ∨ hi' ≤ b) : ClT hi w' ao n T := by
  intro h0
  obtain ⟨b, off, e, hb, hc⟩ := h h0
  exact ⟨b, off, e, hb, fun i hi => ⟨hk.cell (hc i hi).1 (hd b hb), hk.cell (hc i hi).2.1 (hd b hb), hk.cell (hc i hi).2.2 (hd b hb)⟩⟩

theorem ClT.keep0 {hi : Nat} {w w' : World} {ao : Option Addr} {n : Nat} {T : Ths} (h : ClT hi w ao n T) (hk : Kp 0 0 w w') : ClT hi w' ao n T := h.keep hk fun _ _ => .inr (Nat.zero_le _)

theorem RdV.keep {hi lo' hi' : Nat} {w w' : World} {n : Nat} {T : Ths} (h : RdV hi w n T) (hk : Kp lo' hi' w w') (hd : ∀ b, b < hi → b < lo' ∨ hi' ≤ b) : RdV hi w' n T := fun i hi => (h i hi).keep hk fun b _ hb => hd b hb
theorem RdV.keep0 {hi : Nat} {w w' : World} {n : Nat} {T : Ths} (h : RdV hi w n T) (hk : Kp 0 0 w w') : RdV hi w' n T := h.keep hk fun _ _ => .inr (Nat.zero_le _)

/-- The sum that long reckons with, behind k things. -/
def lsum (T : Ths) : Nat → Nat
  | 0 => 0
  | k + 1 => lsum T k + (T.B k).length / 20

/-- Are they too many? -/
def longB (n : Nat) (T : Ths) : Bool := decide (400 < n + lsum T (min n 101)) || decide (100 < n)

/-- One thing's bytes. -/
def lay (T : Ths) (i : Nat) : List Int := if T.R i then Pk.encB (T.B i) else Pk.enc (T.N i)

theorem lsum_le {T : Ths} {n : Nat} (h : ∀ i, i < n → (T.B i).length ≤ 140737488351232) : ∀ k, k ≤ n → lsum T k ≤ k * 7036874417562
  | 0, _ => by simp [lsum]
  | k + 1, hk => by
    have := lsum_le h k (by omega)
    have := h k (by omega)
    simp only [lsum, Nat.succ_mul]
    omega

theorem lay_le {T : Ths} {n i : Nat} (h : InT n T) (hi : i < n) : (lay T i).length ≤ (T.B i).length + 9 := by
  obtain ⟨⟨h1, h2⟩, _, h4⟩ := h i hi
  unfold lay
  split
  · have := enc_len (n := ((T.B i).length : Int)) (by omega) (by omega)
    rw [Pk.encB, List.length_append]
    omega
  · have := enc_len h1 h2
    omega

theorem cat_le {T : Ths} {n : Nat} (h : InT n T) : ∀ k, k ≤ n → (cat (lay T) k).length ≤ 20 * lsum T k + 28 * k
  | 0, _ => by simp [cat, lsum]
  | k + 1, hk => by
    have := cat_le h k (by omega)
    have := lay_le h (i := k) (by omega)
    simp only [cat, lsum, List.length_append]
    omega

theorem lsum_mono (T : Ths) {k m : Nat} (h : k ≤ m) : lsum T k ≤ lsum T m := by
  induction m with
  | zero => obtain rfl : k = 0 := by omega
            exact Nat.le_refl _
  | succ m ih =>
    by_cases e : k = m + 1
    · subst e; exact Nat.le_refl _
    · have := ih (by omega)
      simp only [lsum]
      omega

/-- Where they are not too many, all that is laid is short. -/
theorem short_of {n : Nat} {T : Ths} (h : InT n T) (hl : longB n T = false) : n ≤ 100 ∧ (cat (lay T) n).length ≤ 10800 ∧ ∀ i, i < n → (T.B i).length ≤ 10800 := by
  unfold longB at hl
  simp only [Bool.or_eq_false_iff, decide_eq_false_iff_not] at hl
  have hm : min n 101 = n := by omega
  rw [hm] at hl
  have hc := cat_le h n (Nat.le_refl _)
  refine ⟨by omega, by omega, fun i hi => ?_⟩
  have h1 := lsum_mono T (show i + 1 ≤ n from hi)
  simp only [lsum] at h1
  omega

theorem info_i64 : (Try.prog.info? 3).map (fun i => (i.zero, i.size, i.bytes)) = some (some (.int .i64 0), 1, 8) := by kernel_rfl

theorem ret_bool {a b : Bool} (h : a = b) : Ending.returned (.bool a) = .returned (.bool b) := by rw [h]

theorem long_any {n : Nat} (vl : Value) (T : Ths) (w : World) (ao : Option Addr) (c : Nat) (he : vl = .slice ao n c) (_hc63 : n ≤ c ∧ c ≤ 9223372036854775807) (hcl : ClT w.heap.size w ao n T) (hrv : RdV w.heap.size w n T) (hin : InT n T) (hn : n ≤ 140737488351232) :
    Calls Try.prog 29 #[vl] w fun e w' => e = .returned (.bool (longB n T)) ∧ w = w' := by
  subst he
  have HCL := Lib.hid hcl
  have HRV := Lib.hid hrv
  have HLS : Hid (∀ k, k ≤ n → lsum T k ≤ k * 7036874417562) := fun k hk => lsum_le (fun i hi => (hin i hi).2.2) k hk
  have HST : Hid (∀ k, lsum T (k + 1) = lsum T k + (T.B k).length / 20) := fun _ => rfl
  have HBL : Hid (∀ i, i < n → (T.B i).length ≤ 140737488351232) := fun i hi => (hin i hi).2.2
  have HLB : Hid (longB n T = (decide (400 < n + lsum T (min n 101)) || decide (100 < n))) := rfl
  generalize longB n T = r at HLB ⊢
  clear hcl hrv hin
  go_enter Try.func29, Try.ntmps29
  go_wp2_with fail
  go_loop [3, 4] (fun s i => ∃ k : Nat, k ≤ n ∧ k ≤ 101 ∧ i = .int .i64 k ∧ s = .int .i64 ((n + lsum T k : Nat) : Int)) (fun _ i => 101 - (intOf i).toNat)
  case atStart => exact ⟨0, Nat.zero_le _, by omega, rfl, rfl⟩
  case round =>
    obtain ⟨k, hkn, hk, rfl, rfl⟩ := hrel
    have hls := HLS.out k hkn
    by_cases hlt : k < n
    · by_cases h100 : k ≤ 100
      · obtain ⟨b1, o1, rfl, _, hcc⟩ := HCL.out (by omega)
        obtain ⟨_, _, cV⟩ := hcc k hlt
        obtain ⟨aoV, cVc, hv, _, _, _⟩ := (HRV.out k hlt).open
        rw [hv] at cV
        have hbl := HBL.out k hlt
        have HS := Lib.hid (HST.out k)
        generalize lsum T k = s at hls HS
        generalize (T.B k).length = m at cV hbl HS
        clear hcc hv
        go_wp2_with fail
        go_round
        case rel => exact ⟨k + 1, by omega, by omega, by go_num, by rw [HS.out]; go_num⟩
        case measure => simp [intOf]; omega
      · have hk1 : k = 101 := by omega
        have HR : Hid (r = true) := by
          show _ = _
          rw [HLB.out]
          simp
          omega
        go_wp2_with fail
        all_goals rw [HR.out]
        all_goals go_ret
        all_goals exact ⟨ret_bool (by first | rfl | (simp; done) | (simp; omega)), rfl⟩
    · obtain rfl : n = k := by omega
      have HM : Hid (min n 101 = n) := by show _ = _; omega
      by_cases hg : 400 < n + lsum T n
      · have HR : Hid (r = true) := by
          show _ = _
          rw [HLB.out, HM.out]
          simp [hg]
        generalize lsum T n = s at *
        go_wp2_with fail
        rw [HR.out]
        go_ret
        exact ⟨ret_bool (by first | rfl | (simp; done) | (simp; omega)), rfl⟩
      · have HR : Hid (r = decide (100 < n)) := by
          show _ = _
          rw [HLB.out, HM.out]
          simp [hg]
        by_cases h100 : 100 < n
        · have HR2 : Hid (r = true) := by show _ = _; rw [HR.out]; simp [h100]
          generalize lsum T n = s at *
          go_wp2_with fail
          rw [HR2.out]
          go_ret
          exact ⟨ret_bool (by first | rfl | (simp; done) | (simp; omega)), rfl⟩
        · have HR2 : Hid (r = false) := by show _ = _; rw [HR.out]; simp [h100]
          generalize lsum T n = s at *
          go_wp2_with fail
          rw [HR2.out]
          go_ret
          exact ⟨ret_bool (by first | rfl | (simp; done) | (simp; omega)), rfl⟩

set_option maxHeartbeats 1000000 in
/-- laid: the things' bytes, one behind the other, and where each of them ends. -/
theorem laid_any {n : Nat} (T : Ths) (w : World) (ao : Option Addr) (c : Nat) (_hc63 : n ≤ c ∧ c ≤ 9223372036854775807) (hcl : ClT w.heap.size w ao n T) (hrv : RdV w.heap.size w n T) (hin : InT n T) (hsh : n ≤ 100 ∧ (cat (lay T) n).length ≤ 10800 ∧ ∀ i, i < n → (T.B i).length ≤ 10800) :
    Calls Try.prog 30 #[.slice ao n c] w fun e w' => ∃ vb ve, e = .returned (.tuple #[vb, ve]) ∧ RdI .u8 w.heap.size w'.heap.size w' vb (cat (lay T) n) ∧
      RdI .i64 w.heap.size w'.heap.size w' ve ((List.range n).map fun i => ((cat (lay T) (i + 1)).length : Int)) ∧ Kp 0 0 w w' := by
  obtain ⟨i0, hi, hz0, hz1, hz2⟩ := info_parts info_i64
  have HCL := Lib.hid hcl
  have HRV := Lib.hid hrv
  have HIN := Lib.hid hin
  obtain ⟨hn100, hcat, hbl⟩ := hsh
  have HBL := Lib.hid hbl
  have HCT : Hid (∀ k, k < n → (cat (lay T) (k + 1)) = cat (lay T) k ++ lay T k ∧ (cat (lay T) (k + 1)).length ≤ 10800) := fun k hk => ⟨rfl, Nat.le_trans (cat_mono _ (by omega)) hcat⟩
  have HC0 : Hid (cat (lay T) 0 = []) := rfl
  have HRG : Hid (∀ k, (List.range (k + 1)).map (fun i => ((cat (lay T) (i + 1)).length : Int)) = (List.range k).map (fun i => ((cat (lay T) (i + 1)).length : Int)) ++ [((cat (lay T) (k + 1)).length : Int)]) := fun k => by rw [List.range_succ, List.map_append]; rfl
  have HRL : Hid (∀ k, ((List.range k).map (fun i => ((cat (lay T) (i + 1)).length : Int))).length = k) := fun k => by rw [List.length_map, List.length_range]
  clear hcl hrv hin hbl hcat
  go_enter Try.func30, Try.ntmps30
  go_wp2_with fail
  go_loopw [4, 5, 6] (fun b en i wr => ∃ k : Nat, k ≤ n ∧ i = .int .i64 k ∧ RdI .u8 w.heap.size wr.heap.size wr b (cat (lay T) k) ∧ wr.ownsRow w.heap.size 3 1 en k (((List.range k).map fun i => ((cat (lay T) (i + 1)).length : Int)).map (.int .i64)) ∧ Kp 0 0 w wr) (fun _ _ i _ => n - (intOf i).toNat)
  case atStart => exact ⟨0, Nat.zero_le _, rfl, by rw [HC0.out]; exact RdI.nil _ _ _ _, World.ownsRow_nil _ _ _ _, Kp.refl _ _ _⟩
  case round =>
    obtain ⟨k, hk, rfl, hb, hown, hkp⟩ := hrel
    by_cases hlt : k < n
    · obtain ⟨b1, o1, rfl, _, hcc⟩ := (HCL.out.keep0 hkp) (by omega)
      obtain ⟨cR, cN, cV⟩ := hcc k hlt
      obtain ⟨⟨n1, n2⟩, _, _⟩ := HIN.out k hlt
      have hbl := HBL.out k hlt
      have hvk := (HRV.out k hlt).keep0 hkp
      obtain ⟨hct1, hct2⟩ := HCT.out k hlt
      have HS := Lib.hid hct1
      have HSG := Lib.hid (HRG.out k)
      have hcl := congrArg List.length hct1
      rw [List.length_append] at hcl
      have HLY : Hid (lay T k = if T.R k then Pk.encB (T.B k) else Pk.enc (T.N k)) := rfl
      have HCLN := Lib.hid hcl
      have hcs : (cat (lay T) k).length ≤ 10800 := by omega
      clear hcl hct1 hcc
      generalize hCK : (cat (lay T) (k + 1)).length = m1 at hct2 HSG HCLN
      have HM1 := Lib.hid hCK
      clear hCK
      generalize T.R k = rk at cR HLY
      generalize T.N k = nk at cN HLY n1 n2
      generalize T.V k = vk at cV hvk
      generalize T.B k = bk at hvk hbl HLY
      obtain ⟨aoV, cVc, rfl, _, _, _⟩ := hvk.open
      have HVK := Lib.hid hvk
      have HB := Lib.hid hb
      have HO := Lib.hid hown
      have HKP := Lib.hid hkp
      have hsz := hkp.size
      clear hvk hb hown hkp
      cases rk with
      | true =>
        have HLY2 : Hid (lay T k = Pk.encB bk) := by show _ = _; rw [HLY.out]; rfl
        go_wp2_with fail
        refine (blob_any _ _ _ bk _ HB.out HVK.out (by omega)).mono ?_
        rintro e w2 ⟨v2, rfl, ho2, hk2⟩
        rw [← HLY2.out, ← HS.out] at ho2
        have hr2 : RdI .u8 wr.heap.size w2.heap.size w2 v2 (cat (lay T) (k + 1)) := ho2.rd
        obtain ⟨ao2, c2, rfl, _, _, _⟩ := hr2.open
        rw [HM1.out] at hr2 ⊢
        have HR2 := Lib.hid hr2
        have HK2 := Lib.hid (HKP.out.trans hk2)
        have HO2 := Lib.hid (HO.out.kept (row := none) ⟨hk2.os, hk2.tape, hk2.output, hk2.size, fun j hj _ => hk2.block j hj (.inr (Nat.zero_le _))⟩ (by cases hh : u5.ownBlock <;> simp))
        have hsz2 := HK2.out.size
        clear ho2 hk2 hr2
        go_wp2_with (at_builtin; refine wpList_append_own _ rfl _ _ 46 rfl w.heap.size 3 i0 (.int .i64 0) 1 8 Try.underlying46 hi hz0 hz1 hz2 rfl (by decide) _ _ _ rfl (HO2.out.alloc _) ⟨w2.heap.size, 0, none⟩ 1 1 [.int .i64 (m1 : Int)] rfl rfl (cell_one _ _ _) (by simp [Value.oneCell']) (by unfold maxLen; omega) (by omega) (by simp; omega) ?_)
        intro v3 w3 hown3 hg3 _
        have HK3 := Lib.hid ((HK2.out.alloc _).grown hg3 fun j hj => .inl ((HO2.out.lt j hj).1))
        have hk23 : Kp w.heap.size wr.heap.size w2 w3 := ((Kp.refl w.heap.size wr.heap.size w2).alloc _).grown hg3 fun j hj => .inr (HO.out.lt j hj)
        have HR3 := Lib.hid ((HR2.out.keep hk23 fun b hb _ => .inr hb).wide (lo' := w.heap.size) (hi' := w3.heap.size) (by omega) hk23.size)
        have HO3 := Lib.hid hown3
        clear hown3 hg3 hk23
        go_wp2_with fail
        go_roundw
        case rel =>
          refine ⟨k + 1, by omega, by go_num, HR3.out, ?_, HK3.out⟩
          have ho := HO3.out
          rw [HSG.out]
          simpa using ho
        case measure => simp [intOf]; omega
      | false =>
        have HLY2 : Hid (lay T k = Pk.enc nk) := by show _ = _; rw [HLY.out]; rfl
        go_wp2_with fail
        refine (int_any _ _ nk _ HB.out (by omega) n1 n2).mono ?_
        rintro e w2 ⟨v2, rfl, ho2, hk2⟩
        rw [← HLY2.out, ← HS.out] at ho2
        have hr2 : RdI .u8 wr.heap.size w2.heap.size w2 v2 (cat (lay T) (k + 1)) := ho2.rd
        obtain ⟨ao2, c2, rfl, _, _, _⟩ := hr2.open
        rw [HM1.out] at hr2 ⊢
        have HR2 := Lib.hid hr2
        have HK2 := Lib.hid (HKP.out.trans hk2)
        have HO2 := Lib.hid (HO.out.kept (row := none) ⟨hk2.os, hk2.tape, hk2.output, hk2.size, fun j hj _ => hk2.block j hj (.inr (Nat.zero_le _))⟩ (by cases hh : u5.ownBlock <;> simp))
        have hsz2 := HK2.out.size
        clear ho2 hk2 hr2
        go_wp2_with (at_builtin; refine wpList_append_own _ rfl _ _ 46 rfl w.heap.size 3 i0 (.int .i64 0) 1 8 Try.underlying46 hi hz0 hz1 hz2 rfl (by decide) _ _ _ rfl (HO2.out.alloc _) ⟨w2.heap.size, 0, none⟩ 1 1 [.int .i64 (m1 : Int)] rfl rfl (cell_one _ _ _) (by simp [Value.oneCell']) (by unfold maxLen; omega) (by omega) (by simp; omega) ?_)
        intro v3 w3 hown3 hg3 _
        have HK3 := Lib.hid ((HK2.out.alloc _).grown hg3 fun j hj => .inl ((HO2.out.lt j hj).1))
        have hk23 : Kp w.heap.size wr.heap.size w2 w3 := ((Kp.refl w.heap.size wr.heap.size w2).alloc _).grown hg3 fun j hj => .inr (HO.out.lt j hj)
        have HR3 := Lib.hid ((HR2.out.keep hk23 fun b hb _ => .inr hb).wide (lo' := w.heap.size) (hi' := w3.heap.size) (by omega) hk23.size)
        have HO3 := Lib.hid hown3
        clear hown3 hg3 hk23
        go_wp2_with fail
        go_roundw
        case rel =>
          refine ⟨k + 1, by omega, by go_num, HR3.out, ?_, HK3.out⟩
          have ho := HO3.out
          rw [HSG.out]
          simpa using ho
        case measure => simp [intOf]; omega
    · obtain rfl : n = k := by omega
      go_wp2_with fail
      refine bodyPost_ret (v := .tuple #[u4, u5]) (by simp [results, Try.results30, go_sem]) rfl ?_
      exact ⟨_, _, rfl, hb, (OwnI.of_rowN hown (HRL.out n)).rd, hkp⟩

end Go.Proofs.Ytomefjfhccicaaa
