/-
  PackBack as a contract.
-/
import Derived.Test.YtomefjfhccicaaaShown
import Derived.Test.YtomefjfhccicaaaThing2
namespace Go.Proofs.Ytomefjfhccicaaa
open Go.RowKit

theorem cat_tail (lf : Nat → List Int) {i n : Nat} (h : i ≤ n) : ∃ t, cat lf n = cat lf i ++ t := by
  induction n with
  | zero => obtain rfl : i = 0 := by omega
            exact ⟨[], by simp⟩
  | succ n ih =>
    by_cases e : i = n + 1
    · subst e; exact ⟨[], by simp⟩
    · obtain ⟨t, ht⟩ := ih (by omega)
      exact ⟨t ++ lf n, by rw [← List.append_assoc, ← ht]; rfl⟩

theorem cat_drop (lf : Nat → List Int) {i n : Nat} (h : i < n) : (cat lf n).drop (cat lf i).length = lf i ++ (cat lf n).drop (cat lf (i + 1)).length := by
  obtain ⟨t, ht⟩ := cat_tail lf (show i + 1 ≤ n from h)
  rw [ht, List.drop_left' rfl]
  show (cat lf i ++ lf i ++ t).drop _ = _
  rw [List.append_assoc, List.drop_left' rfl]

theorem lay_range {T : Ths} {n i : Nat} (h : InT n T) (hi : i < n) : ∀ y ∈ lay T i, 0 ≤ y ∧ y < 256 := by
  obtain ⟨⟨h1, h2⟩, h3, h4⟩ := h i hi
  intro y hy
  unfold lay at hy
  split at hy
  · rw [Pk.encB, List.mem_append] at hy
    rcases hy with hy | hy
    · exact Pk.enc_range (by omega) (by omega) y hy
    · exact h3 y hy
  · exact Pk.enc_range h1 h2 y hy

theorem cat_range {T : Ths} {n : Nat} (h : InT n T) : ∀ k, k ≤ n → ∀ y ∈ cat (lay T) k, 0 ≤ y ∧ y < 256
  | 0, _ => by simp [cat]
  | k + 1, hk => by
    intro y hy
    rw [cat, List.mem_append] at hy
    rcases hy with hy | hy
    · exact cat_range h k (by omega) y hy
    · exact lay_range h (by omega) y hy

/-- is, of whatever thing was laid. -/
theorem is_any {p lo n i : Nat} (T : Ths) (rest : List Int) (w : World) (hrv : RdV p w n T) (hin : InT n T) (hi : i < n) (hbl : (T.B i).length ≤ 10800) (hr : Rdr p lo w (lay T i ++ rest) 0) (hb : ∀ y ∈ lay T i ++ rest, 0 ≤ y ∧ y < 256) :
    Calls Try.prog 31 #[.pointer (some ⟨p, 0, none⟩), .agg #[.bool (T.R i), .int .i64 (T.N i), T.V i]] w fun e w' => e = .returned (.bool true) ∧ Rdr p lo w' rest 0 ∧ Kp p (p + 1) w w' := by
  have hl : lay T i = if T.R i then Pk.encB (T.B i) else Pk.enc (T.N i) := rfl
  obtain ⟨⟨h1, h2⟩, _, _⟩ := hin i hi
  cases hR : T.R i with
  | true =>
    rw [hR, if_pos rfl] at hl
    rw [hl] at hr hb
    exact is_row _ _ _ rest w (hrv i hi) (Nat.le_refl _) (by omega) hr hb
  | false =>
    rw [hR, if_neg (by decide)] at hl
    rw [hl] at hr hb
    exact is_num _ _ _ rest w (hrv i hi) h1 h2 hr hb

set_option maxRecDepth 100000 in
set_option maxHeartbeats 1000000 in
theorem back_any {n : Nat} (T : Ths) (w : World) (ao : Option Addr) (c : Nat) (hc63 : n ≤ c ∧ c ≤ 9223372036854775807) (hn : n ≤ 140737488351232) (hcl : ClT w.heap.size w ao n T) (hrv : RdV w.heap.size w n T) (hin : InT n T) :
    Calls Try.prog 5 #[.slice ao n c] w fun e w' => e = .returned (.bool true) ∧ Kp 0 0 w w' := by
  have HLG := Lib.hid (long_any _ T w ao c rfl hc63 hcl hrv hin hn)
  have HSH : Hid (longB n T = false → n ≤ 100 ∧ (cat (lay T) n).length ≤ 10800 ∧ ∀ i, i < n → (T.B i).length ≤ 10800) := fun h => short_of hin h
  have HCL := Lib.hid hcl
  have HRV := Lib.hid hrv
  have HIN := Lib.hid hin
  clear hcl hrv hin
  cases hlb : longB n T with
  | true =>
    rw [hlb] at HLG
    go_enter Try.func5, Try.ntmps5
    go_wp2_with fail
    refine HLG.out.mono ?_
    rintro e w1 ⟨rfl, rfl⟩
    go_wp2_with fail
    refine (shown_any _).mono ?_
    rintro e w1 ⟨rfl, hk⟩
    have HK := Lib.hid hk
    clear hk
    go_wp2_with fail
    go_ret
    exact ⟨rfl, HK.out⟩
  | false =>
    obtain ⟨h100, hcat, hbl⟩ := HSH.out hlb
    rw [hlb] at HLG
    have HBL := Lib.hid hbl
    have HLD := Lib.hid (laid_any T w ao c hc63 HCL.out HRV.out HIN.out ⟨h100, hcat, hbl⟩)
    have HCR : Hid (∀ y ∈ cat (lay T) n, 0 ≤ y ∧ y < 256) := cat_range HIN.out n (Nat.le_refl _)
    clear hbl hlb
    go_enter Try.func5, Try.ntmps5
    go_wp2_with fail
    refine HLG.out.mono ?_
    rintro e w1 ⟨rfl, rfl⟩
    go_wp2_with fail
    refine HLD.out.mono ?_
    rintro e w2 ⟨vb, ve, rfl, hb2, _, hk2⟩
    have HB2 := Lib.hid hb2
    have HK2 := Lib.hid hk2
    clear hb2 hk2
    go_wp2_with fail
    refine (from_any _ _ _ HB2.out (by omega)).mono ?_
    rintro e w3 ⟨p, rfl, hp, hr, hk⟩
    have HR3 : Hid (Rdr p w2.heap.size w3 ((cat (lay T) n).drop (cat (lay T) 0).length) 0) := hr
    have HK3 := Lib.hid (HK2.out.trans hk)
    have hpw : w.heap.size ≤ p := by have := HK2.out.size; omega
    clear hr hk hp
    go_wp2_with fail
    go_loopw [6] (fun i wr => ∃ k : Nat, k ≤ n ∧ i = .int .i64 k ∧ Rdr p w2.heap.size wr ((cat (lay T) n).drop (cat (lay T) k).length) 0 ∧ Kp 0 0 w wr) (fun i _ => n - (intOf i).toNat)
    case atStart => exact ⟨0, Nat.zero_le _, rfl, HR3.out, HK3.out⟩
    case round =>
      obtain ⟨k, hk, rfl, hr, hkp⟩ := hrel
      have HKP := Lib.hid hkp
      by_cases hlt : k < n
      · obtain ⟨b1, o1, rfl, _, hcc⟩ := (HCL.out.keep0 hkp) (by omega)
        obtain ⟨cR, cN, cV⟩ := hcc k hlt
        rw [cat_drop (lay T) hlt] at hr
        have HIS := Lib.hid (is_any (n := n) T _ _ (fun i hi => ((HRV.out i hi).keep0 hkp).wide (Nat.zero_le _) hpw) HIN.out hlt (HBL.out k hlt) hr (by
          rw [← cat_drop (lay T) hlt]
          exact fun y hy => HCR.out y (List.mem_of_mem_drop hy)))
        generalize T.R k = rk at cR HIS
        generalize T.N k = nk at cN HIS
        obtain ⟨aov, cv, hv, _, _, _⟩ := (HRV.out k hlt).open
        rw [hv] at cV HIS
        clear hcc hr hkp hv
        go_wp2_with fail
        refine HIS.out.mono ?_
        rintro e w4 ⟨rfl, hr4, hk4⟩
        have HR4 := Lib.hid hr4
        have HK4 : Hid (Kp 0 0 w w4) := HKP.out.step hk4 fun j h _ => .inl (by omega)
        clear hr4 hk4
        go_wp2_with fail
        go_roundw
        case rel => exact ⟨k + 1, by omega, by go_num, HR4.out, HK4.out⟩
        case measure => simp [intOf]; omega
      · obtain rfl : n = k := by omega
        rw [List.drop_length] at hr
        have hd := done_any [] 0 _ hr
        have hde : Pk.dne [] 0 = 0 := by decide
        rw [hde] at hd
        have HDN := Lib.hid hd
        clear hd hr hkp
        go_wp2_with fail
        refine HDN.out.mono ?_
        rintro e w4 ⟨rfl, rfl⟩
        go_wp2_with fail
        refine (shown_any _).mono ?_
        rintro e w5 ⟨rfl, hk⟩
        have HKZ := Lib.hid hk
        clear hk
        go_wp2_with fail
        go_ret
        exact ⟨rfl, HKP.out.trans HKZ.out⟩

end Go.Proofs.Ytomefjfhccicaaa
