/-
  The contracts of package pack's Reader, the second part: count, blob; the calls that end a panic inside.
-/
import Derived.Test.YtomefjfhccicaaaRead
import Derived.RegionTactic
import Derived.ChangeAlike
namespace Go.Proofs.Ytomefjfhccicaaa
open Go.RowKit

theorem count_any {p lo : Nat} (most : Int) (l : List Int) (w : World) (h : Rdr p lo w l 0) (hb : ∀ y ∈ l, 0 ≤ y ∧ y < 256) :
    Calls Try.prog 41 #[.pointer (some ⟨p, 0, none⟩), .int .i64 most] w (Got (.int .i64) p lo w l (Pk.cnt most l)) := by
  have HN : Hid (Pk.cnt most l = if (Pk.num l).2.2 = 0 ∧ ((Pk.num l).1 < 0 ∨ most < (Pk.num l).1) then (0, 0, 3) else Pk.num l) := rfl
  go_enter Try.func41, Try.ntmps41
  go_wp2_with fail
  refine (num_any l w h hb).mono ?_
  generalize Pk.num l = r at HN ⊢
  obtain ⟨n, k, er⟩ := r
  rintro e w1 ⟨hk, ⟨h0, rfl, hr⟩ | ⟨h0, rfl, hr⟩⟩
  · have HK := Lib.hid hk
    have HR := Lib.hid hr
    have H0 : Hid (er = 0) := h0
    clear hk hr h0
    by_cases h1 : n < 0
    · have HC : Hid (Pk.cnt most l = (0, 0, 3)) := by show _ = _; rw [HN.out, if_pos ⟨H0.out, .inl h1⟩]
      go_wp2_with fail
      refine ⟨rfl, ?_⟩
      rw [HC.out]
      exact ⟨HK.out, .inr ⟨by decide, rfl, _, HR.out⟩⟩
    · by_cases h2 : most < n
      · have HC : Hid (Pk.cnt most l = (0, 0, 3)) := by show _ = _; rw [HN.out, if_pos ⟨H0.out, .inr h2⟩]
        go_wp2_with fail
        refine ⟨rfl, ?_⟩
        rw [HC.out]
        exact ⟨HK.out, .inr ⟨by decide, rfl, _, HR.out⟩⟩
      · have HC : Hid (Pk.cnt most l = (n, k, er)) := by show _ = _; rw [HN.out, if_neg (fun hc => hc.2.elim h1 h2)]
        go_wp2_with fail
        go_ret
        rw [HC.out]
        exact ⟨HK.out, .inl ⟨H0.out, rfl, HR.out⟩⟩
  · have HC : Hid (Pk.cnt most l = (n, k, er)) := by show _ = _; rw [HN.out, if_neg (fun hc => h0 hc.1)]
    have HK := Lib.hid hk
    have HR := Lib.hid hr
    have H0 : Hid (er ≠ 0) := h0
    clear hk hr h0
    go_wp2_with fail
    refine ⟨rfl, ?_⟩
    rw [HC.out]
    exact ⟨HK.out, .inr ⟨H0.out, rfl, HR.out⟩⟩

theorem cnt_range {m : Int} {l : List Int} (h : (Pk.cnt m l).2.2 = 0) : 0 ≤ (Pk.cnt m l).1 ∧ (Pk.cnt m l).1 ≤ m := by
  unfold Pk.cnt at h ⊢
  split at h
  · cases h
  · rename_i hc
    rw [if_neg hc]
    omega

/-- What a reading of a byte string comes to: a row in new memory, or a panic that bears the error. -/
def GotB (p lo : Nat) (w : World) (l : List Int) (r : List Int × Nat × Int) (e : Ending) (w' : World) : Prop :=
  Kp p (p + 1) w w' ∧ ((r.2.2 = 0 ∧ (∃ v, e = .returned v ∧ OwnI .u8 5 w.heap.size w'.heap.size w' v r.1) ∧ Rdr p lo w' (l.drop r.2.1) 0) ∨
    (r.2.2 ≠ 0 ∧ e = .panicked [{ v := pnc r.2.2, recovered := false }] ∧ ∃ l', Rdr p lo w' l' 0))

theorem rblob_any {p lo : Nat} (l : List Int) (w : World) (h : Rdr p lo w l 0) (hb : ∀ y ∈ l, 0 ≤ y ∧ y < 256) :
    Calls Try.prog 44 #[.pointer (some ⟨p, 0, none⟩)] w (GotB p lo w l (Pk.blb l)) := by
  have HN : Hid (Pk.blb l = if (Pk.cnt 2147483647 l).2.2 ≠ 0 then ([], 0, (Pk.cnt 2147483647 l).2.2)
      else if ((l.drop (Pk.cnt 2147483647 l).2.1).length : Int) < (Pk.cnt 2147483647 l).1 then ([], 0, 4)
      else ((l.drop (Pk.cnt 2147483647 l).2.1).take (Pk.cnt 2147483647 l).1.toNat, (Pk.cnt 2147483647 l).2.1 + (Pk.cnt 2147483647 l).1.toNat, 0)) := rfl
  have HG : Hid ((Pk.cnt 2147483647 l).2.2 = 0 → 0 ≤ (Pk.cnt 2147483647 l).1 ∧ (Pk.cnt 2147483647 l).1 ≤ 2147483647) := fun h => cnt_range h
  go_enter Try.func44, Try.ntmps44
  go_wp2_with fail
  refine (count_any 2147483647 l w h hb).mono ?_
  generalize Pk.cnt 2147483647 l = r at HN HG ⊢
  obtain ⟨n, k, er⟩ := r
  rintro e w1 ⟨hk, ⟨h0, rfl, hr⟩ | ⟨h0, rfl, hr⟩⟩
  · have hg : 0 ≤ n ∧ n ≤ 2147483647 := HG.out h0
    obtain ⟨m, rfl⟩ := Int.eq_ofNat_of_zero_le hg.1
    have HK := Lib.hid hk
    have HR : Hid (Rdr p lo w1 (l.drop k) 0) := hr
    have H0 : Hid (er = 0) := h0
    clear hk hr h0 HG
    by_cases h1 : (l.drop k).length < m
    · have HC : Hid (Pk.blb l = ([], 0, 4)) := by show _ = _; rw [HN.out, if_neg (fun hc => hc H0.out), if_pos (by show ((l.drop k).length : Int) < (m : Int); omega)]
      go_wp2_with fail
      refine (take_short _ _ HR.out (by omega)).mono ?_
      rintro e w' ⟨rfl, rfl⟩
      go_wp2_with fail
      refine ⟨rfl, ?_⟩
      rw [HC.out]
      exact ⟨HK.out, .inr ⟨by decide, rfl, _, HR.out⟩⟩
    · have HC : Hid (Pk.blb l = ((l.drop k).take m, k + m, 0)) := by show _ = _; rw [HN.out, if_neg (fun hc => hc H0.out), if_neg (by show ¬ ((l.drop k).length : Int) < (m : Int); omega)]; rfl
      go_wp2_with fail
      refine (take_ok m _ HR.out (by omega)).mono ?_
      rintro e w2 ⟨v2, rfl, hr1, hr2, hk⟩
      have HK2 := Lib.hid (HK.out.trans hk)
      have HR2 := Lib.hid hr2
      have HV := Lib.hid hr1
      clear hr1 hr2 hk
      go_wp2_with fail
      refine (clone_any _ _ _ HV.out (by rw [List.length_take]; omega)).mono ?_
      rintro e w3 ⟨v3, rfl, hown, hk3⟩
      have HK3 := Lib.hid hk3
      have HO := Lib.hid hown
      clear hk3 hown
      go_wp2_with fail
      go_ret
      rw [HC.out]
      refine ⟨HK2.out.pure HK3.out, .inl ⟨rfl, ⟨_, rfl, HO.out.wide HK2.out.size (Nat.le_refl _)⟩, ?_⟩⟩
      have := HR2.out.keep0 HK3.out
      rw [List.drop_drop] at this
      exact this
  · have HC : Hid (Pk.blb l = ([], 0, er)) := by show _ = _; rw [HN.out, if_pos h0]
    have HK := Lib.hid hk
    have HR := Lib.hid hr
    have H0 : Hid (er ≠ 0) := h0
    clear hk hr h0
    go_wp2_with fail
    refine ⟨rfl, ?_⟩
    rw [HC.out]
    exact ⟨HK.out, .inr ⟨H0.out, rfl, HR.out⟩⟩

/-- Count's own function literal. -/
theorem count_lit {p lo b1 b2 : Nat} (most : Int) (l : List Int) (w : World) (h : Rdr p lo w l 0) (hb : ∀ y ∈ l, 0 ≤ y ∧ y < 256) (h1 : w.cell? ⟨b1, 0, none⟩ = some (.pointer (some ⟨p, 0, none⟩))) (h2 : w.cell? ⟨b2, 0, none⟩ = some (.int .i64 most)) :
    Calls Try.prog 40 #[.pointer (some ⟨b1, 0, none⟩), .pointer (some ⟨b2, 0, none⟩)] w (Got (.int .i64) p lo w l (Pk.cnt most l)) := by
  have HA := Lib.hid (count_any most l w h hb)
  generalize Pk.cnt most l = r at HA ⊢
  obtain ⟨n, k, er⟩ := r
  go_enter Try.func40, Try.ntmps40
  go_wp2_with fail
  refine HA.out.mono ?_
  rintro e w1 ⟨hk, ⟨h0, rfl, hr⟩ | ⟨h0, rfl, hr⟩⟩
  · have HK := Lib.hid hk
    have HR := Lib.hid hr
    have H0 : Hid (er = 0) := h0
    clear hk hr h0
    go_wp2_with fail
    go_ret
    exact ⟨HK.out, .inl ⟨H0.out, rfl, HR.out⟩⟩
  · have HK := Lib.hid hk
    have HR := Lib.hid hr
    have H0 : Hid (er ≠ 0) := h0
    clear hk hr h0
    go_wp2_with fail
    exact ⟨rfl, HK.out, .inr ⟨H0.out, rfl, HR.out⟩⟩

end Go.Proofs.Ytomefjfhccicaaa
