/-
  The contracts of package quaysideref01's Reader, the second part: number, counted, Int, Count, Blob, Done.
-/
import Derived.Test.YtgokhagbknlfaaaRef3I
import Derived.Test.YtgokhagbknlfaaaRead2I
import Derived.BigRegion
import Derived.StillTailTactics
namespace Go.Proofs.Ytgokhagbknlfaaa
open Go.RowKit
set_option maxRecDepth 100000

theorem refNum_any {p lo : Nat} (L : List Int) (a : Nat) (er : Int) (w : World) (h : RefR p lo w L a er) (hL : L.length ≤ 140737488351232) (hb : ∀ y ∈ L, 0 ≤ y ∧ y < 256) :
    Calls Try.prog 51 #[.pointer (some ⟨p, 0, none⟩), .int .i64 (a : Int)] w (Tells3 w (Pk.num (L.drop a))) := by
  by_cases ha : a < L.length
  · have hx := hb L[a] (List.getElem_mem ha)
    have hsOf : (16 < L[a] ∧ Pk.sOf L[a] = L[a] - 16) ∨ (L[a] ≤ 16 ∧ Pk.sOf L[a] = L[a]) := by
      unfold Pk.sOf
      split <;> omega
    have e : L.drop a = L[a] :: L.drop (a + 1) := List.drop_eq_getElem_cons ha
    rw [e]
    show Calls _ _ _ _ (Tells3 w (Pk.numC (decide (16 < L[a])) (Pk.sOf L[a]) (L.drop (a + 1))))
    obtain ⟨n, hn⟩ : ∃ n : Nat, Pk.sOf L[a] = (n : Int) := ⟨(Pk.sOf L[a]).toNat, by omega⟩
    rw [hn] at hsOf ⊢
    exact refNum_in L _ a n er L[a] w h hL ha hx (by simp [List.getD, ha]) rfl (fun y hy => hb y (List.mem_of_mem_drop hy)) (by omega)
  · obtain ⟨v, hh, hr, hal⟩ := h
    have hal2 : a = L.length := by omega
    subst hal2
    rw [List.drop_length]
    show Calls _ _ _ _ (Tells3 w (0, 0, 4))
    obtain ⟨ao, c, rfl, hlc, hc63, _⟩ := hr.open
    obtain ⟨c0, c1, c2, f0, f1, f2⟩ := cell_three hh
    clear hr hh hb ha
    go_enter Try.func51, Try.ntmps51
    go_wp2
    go_ret3
    exact ⟨rfl, Kp.refl _ _ _⟩

theorem refCnt_any {p lo : Nat} (most : Int) (L : List Int) (a : Nat) (er : Int) (w : World) (h : RefR p lo w L a er) (hL : L.length ≤ 140737488351232) (hb : ∀ y ∈ L, 0 ≤ y ∧ y < 256) :
    Calls Try.prog 50 #[.pointer (some ⟨p, 0, none⟩), .int .i64 most] w (Tells3 w (Pk.cnt most (L.drop a))) := by
  have HA := Lib.hid (refNum_any L a er w h hL hb)
  have HN : Hid (Pk.cnt most (L.drop a) = if (Pk.num (L.drop a)).2.2 = 0 ∧ ((Pk.num (L.drop a)).1 < 0 ∨ most < (Pk.num (L.drop a)).1) then (0, 0, 3) else Pk.num (L.drop a)) := rfl
  generalize Pk.cnt most (L.drop a) = q at HN ⊢
  generalize Pk.num (L.drop a) = r at HA HN
  obtain ⟨n, k, e⟩ := r
  obtain ⟨v, hh, hr, hal⟩ := h
  obtain ⟨ao, c, rfl, hlc, hc63, _⟩ := hr.open
  obtain ⟨c0, c1, c2, f0, f1, f2⟩ := cell_three hh
  clear hr hh hb hal hL hlc
  by_cases he : e = 0
  · by_cases h1 : n < 0
    · obtain rfl : q = (0, 0, 3) := by rw [HN.out, if_pos ⟨he, .inl h1⟩]
      subst he
      go_enter Try.func50, Try.ntmps50
      go_wp2_with fail
      refine HA.out.mono ?_
      rintro e w1 ⟨rfl, hk⟩
      have HK := Lib.hid hk
      clear hk
      go_wp2_with fail
      go_ret3
      exact ⟨rfl, HK.out⟩
    · by_cases h2 : most < n
      · obtain rfl : q = (0, 0, 3) := by rw [HN.out, if_pos ⟨he, .inr h2⟩]
        subst he
        go_enter Try.func50, Try.ntmps50
        go_wp2_with fail
        refine HA.out.mono ?_
        rintro e w1 ⟨rfl, hk⟩
        have HK := Lib.hid hk
        clear hk
        go_wp2_with fail
        go_ret3
        exact ⟨rfl, HK.out⟩
      · obtain rfl : q = (n, k, e) := by rw [HN.out, if_neg (fun hc => hc.2.elim h1 h2)]
        subst he
        go_enter Try.func50, Try.ntmps50
        go_wp2_with fail
        refine HA.out.mono ?_
        rintro e w1 ⟨rfl, hk⟩
        have HK := Lib.hid hk
        clear hk
        go_wp2_with fail
        go_ret3
        exact ⟨rfl, HK.out⟩
  · obtain rfl : q = (n, k, e) := by rw [HN.out, if_neg (fun hc => he hc.1)]
    have he' : (e == 0) = false := beq_eq_false_iff_ne.2 he
    go_enter Try.func50, Try.ntmps50
    go_wp2_with fail
    refine HA.out.mono ?_
    rintro e w1 ⟨rfl, hk⟩
    have HK := Lib.hid hk
    clear hk
    go_wp2_with fail
    go_ret3
    exact ⟨rfl, HK.out⟩

/-- The state of the document's reader as a pair. -/
theorem nxt_drop {L : List Int} {a k : Nat} {e : Int} (h : e ≠ 0 → k = 0) : (Pk.nxt (L.drop a) k e).1 = L.drop (a + k) := by
  unfold Pk.nxt
  by_cases he : e = 0
  · rw [if_pos he, List.drop_drop]
  · rw [if_neg he, h he]
    rfl

set_option maxHeartbeats 400000 in
theorem refRInt_any {p lo : Nat} (L : List Int) (a : Nat) (er : Int) (w : World) (h : RefR p lo w L a er) (hL : L.length ≤ 140737488351232) (hb : ∀ y ∈ L, 0 ≤ y ∧ y < 256) :
    Calls Try.prog 36 #[.pointer (some ⟨p, 0, none⟩)] w fun e w' => e = .returned (.int .i64 (Pk.rdInt (L.drop a) er).1) ∧
      (∃ a', L.drop a' = (Pk.rdInt (L.drop a) er).2.1 ∧ RefR p lo w' L a' (Pk.rdInt (L.drop a) er).2.2) ∧ Kp p (p + 1) w w' := by
  by_cases he : er = 0
  · have HA := Lib.hid (refNum_any L a er w h hL hb)
    have hf := Pk.num_facts (l := L.drop a) fun y hy => hb y (List.mem_of_mem_drop hy)
    have HX : Hid (Pk.rdInt (L.drop a) er = ((if (Pk.num (L.drop a)).2.2 = 0 then (Pk.num (L.drop a)).1 else 0), Pk.nxt (L.drop a) (Pk.num (L.drop a)).2.1 (Pk.num (L.drop a)).2.2)) := by show _ = _; unfold Pk.rdInt; rw [if_pos he]
    generalize Pk.rdInt (L.drop a) er = q at HX ⊢
    generalize Pk.num (L.drop a) = r at HA HX hf
    obtain ⟨n, k, e⟩ := r
    rw [List.length_drop] at hf
    obtain ⟨hf1, hf2⟩ := hf
    have HF1 : Hid (e ≠ 0 → n = 0 ∧ k = 0) := hf1
    have hf2' : k ≤ L.length - a := hf2
    clear hf1 hf2
    obtain ⟨v, hh, hr, hal⟩ := h
    obtain ⟨ao, c, rfl, hlc, hc63, _⟩ := hr.open
    obtain ⟨c0, c1, c2, f0, f1, f2⟩ := cell_three hh
    have HH := Lib.hid hh
    have HR := Lib.hid hr
    have HE := Lib.hid he
    rw [he] at c2
    clear hr hh hb he
    go_enter Try.func36, Try.ntmps36
    go_wp2_with fail
    refine HA.out.mono ?_
    rintro e1 w1 ⟨rfl, hk⟩
    have HK := Lib.hid hk
    have HH1 := Lib.hid (hk.heap HH.out (.inr (Nat.zero_le _)))
    obtain ⟨d0, d1, d2, g0, g1, g2⟩ := cell_three HH1.out
    clear hk
    go_wp2_with fail
    go_ret
    have hk1 : Kp p (p + 1) w1 ((w1.setCell ⟨p, 1, none⟩ (.int .i64 ((a : Int) + k))).setCell ⟨p, 2, none⟩ (.int .i64 e)) := ((Kp.refl p (p + 1) w1).setCell (.inr ⟨Nat.le_refl _, Nat.lt_succ_self _⟩) _).setCell (.inr ⟨Nat.le_refl _, Nat.lt_succ_self _⟩) _
    rw [HX.out]
    refine ⟨?_, ⟨a + k, (nxt_drop fun h => (HF1.out h).2).symm, ?_⟩, HK.out.any.trans hk1⟩
    · by_cases h0 : e = 0
      · rw [if_pos h0]
        rfl
      · rw [if_neg h0]
        have := (HF1.out h0).1
        subst this
        rfl
    · have hs := set_three2 (set_three1 HH1.out (.int .i64 ((a : Int) + k))) (.int .i64 e)
      refine ⟨_, ?_, (HR.out.keep0 HK.out).keep hk1 fun b _ h2 => by omega, by omega⟩
      rw [Int.natCast_add]
      exact hs
  · have HX : Hid (Pk.rdInt (L.drop a) er = (0, L.drop a, er)) := by show _ = _; unfold Pk.rdInt; rw [if_neg he]
    have H := Lib.hid h
    obtain ⟨v, hh, hr, hal⟩ := h
    obtain ⟨ao, c, rfl, hlc, hc63, _⟩ := hr.open
    obtain ⟨c0, c1, c2, f0, f1, f2⟩ := cell_three hh
    have hne : (er != 0) = true := by simpa using he
    clear hr hh hb
    go_enter Try.func36, Try.ntmps36
    go_wp2
    go_ret
    rw [HX.out]
    exact ⟨rfl, ⟨a, rfl, H.out⟩, Kp.refl _ _ _⟩

set_option maxHeartbeats 400000 in
theorem refRCnt_any {p lo : Nat} (most : Int) (L : List Int) (a : Nat) (er : Int) (w : World) (h : RefR p lo w L a er) (hL : L.length ≤ 140737488351232) (hb : ∀ y ∈ L, 0 ≤ y ∧ y < 256) :
    Calls Try.prog 34 #[.pointer (some ⟨p, 0, none⟩), .int .i64 most] w fun e w' => e = .returned (.int .i64 (Pk.rdCnt most (L.drop a) er).1) ∧
      (∃ a', L.drop a' = (Pk.rdCnt most (L.drop a) er).2.1 ∧ RefR p lo w' L a' (Pk.rdCnt most (L.drop a) er).2.2) ∧ Kp p (p + 1) w w' := by
  by_cases he : er = 0
  · have HA := Lib.hid (refCnt_any most L a er w h hL hb)
    have hf := Pk.cnt_facts (m := most) (l := L.drop a) fun y hy => hb y (List.mem_of_mem_drop hy)
    have HX : Hid (Pk.rdCnt most (L.drop a) er = ((if (Pk.cnt most (L.drop a)).2.2 = 0 then (Pk.cnt most (L.drop a)).1 else 0), Pk.nxt (L.drop a) (Pk.cnt most (L.drop a)).2.1 (Pk.cnt most (L.drop a)).2.2)) := by show _ = _; unfold Pk.rdCnt; rw [if_pos he]
    generalize Pk.rdCnt most (L.drop a) er = q at HX ⊢
    generalize Pk.cnt most (L.drop a) = r at HA HX hf
    obtain ⟨n, k, e⟩ := r
    rw [List.length_drop] at hf
    obtain ⟨hf1, hf2⟩ := hf
    have HF1 : Hid (e ≠ 0 → n = 0 ∧ k = 0) := hf1
    have hf2' : k ≤ L.length - a := hf2
    clear hf1 hf2
    obtain ⟨v, hh, hr, hal⟩ := h
    obtain ⟨ao, c, rfl, hlc, hc63, _⟩ := hr.open
    obtain ⟨c0, c1, c2, f0, f1, f2⟩ := cell_three hh
    have HH := Lib.hid hh
    have HR := Lib.hid hr
    have HE := Lib.hid he
    rw [he] at c2
    clear hr hh hb he
    go_enter Try.func34, Try.ntmps34
    go_wp2_with fail
    refine HA.out.mono ?_
    rintro e1 w1 ⟨rfl, hk⟩
    have HK := Lib.hid hk
    have HH1 := Lib.hid (hk.heap HH.out (.inr (Nat.zero_le _)))
    obtain ⟨d0, d1, d2, g0, g1, g2⟩ := cell_three HH1.out
    clear hk
    go_wp2_with fail
    go_ret
    have hk1 : Kp p (p + 1) w1 ((w1.setCell ⟨p, 1, none⟩ (.int .i64 ((a : Int) + k))).setCell ⟨p, 2, none⟩ (.int .i64 e)) := ((Kp.refl p (p + 1) w1).setCell (.inr ⟨Nat.le_refl _, Nat.lt_succ_self _⟩) _).setCell (.inr ⟨Nat.le_refl _, Nat.lt_succ_self _⟩) _
    rw [HX.out]
    refine ⟨?_, ⟨a + k, (nxt_drop fun h => (HF1.out h).2).symm, ?_⟩, HK.out.any.trans hk1⟩
    · by_cases h0 : e = 0
      · rw [if_pos h0]
        rfl
      · rw [if_neg h0]
        have := (HF1.out h0).1
        subst this
        rfl
    · have hs := set_three2 (set_three1 HH1.out (.int .i64 ((a : Int) + k))) (.int .i64 e)
      refine ⟨_, ?_, (HR.out.keep0 HK.out).keep hk1 fun b _ h2 => by omega, by omega⟩
      rw [Int.natCast_add]
      exact hs
  · have HX : Hid (Pk.rdCnt most (L.drop a) er = (0, L.drop a, er)) := by show _ = _; unfold Pk.rdCnt; rw [if_neg he]
    have H := Lib.hid h
    obtain ⟨v, hh, hr, hal⟩ := h
    obtain ⟨ao, c, rfl, hlc, hc63, _⟩ := hr.open
    obtain ⟨c0, c1, c2, f0, f1, f2⟩ := cell_three hh
    have hne : (er != 0) = true := by simpa using he
    clear hr hh hb
    go_enter Try.func34, Try.ntmps34
    go_wp2
    go_ret
    rw [HX.out]
    exact ⟨rfl, ⟨a, rfl, H.out⟩, Kp.refl _ _ _⟩

theorem refDone_any {p lo : Nat} (L : List Int) (a : Nat) (er : Int) (w : World) (h : RefR p lo w L a er) :
    Calls Try.prog 37 #[.pointer (some ⟨p, 0, none⟩)] w fun e w' => e = .returned (.int .i64 (Pk.dne (L.drop a) er)) ∧ Kp 0 0 w w' := by
  obtain ⟨v, hh, hr, hal⟩ := h
  obtain ⟨ao, c, rfl, hlc, hc63, _⟩ := hr.open
  obtain ⟨c0, c1, c2, f0, f1, f2⟩ := cell_three hh
  clear hr hh
  by_cases he : er = 0
  · subst he
    by_cases hl : a < L.length
    · have HX : Hid (Pk.dne (L.drop a) 0 = 5) := by
        show _ = _
        unfold Pk.dne
        rw [if_pos ⟨rfl, fun e => by have := congrArg List.length e; rw [List.length_drop] at this; simp at this; omega⟩]
      go_enter Try.func37, Try.ntmps37
      go_wp2
      go_quiet (fail)
      go_wp2
      go_ret
      rw [HX.out]
      exact ⟨rfl, (Kp.refl _ _ _).drewN _⟩
    · have HX : Hid (Pk.dne (L.drop a) 0 = 0) := by
        show _ = _
        unfold Pk.dne
        rw [if_neg (fun h => h.2 (List.drop_eq_nil_of_le (by omega)))]
      have hd : decide ((a : Int) < (L.length : Int)) = false := by simp; omega
      go_enter Try.func37, Try.ntmps37
      go_wp2
      go_quiet (fail)
      go_wp2
      go_ret
      rw [HX.out]
      exact ⟨rfl, (Kp.refl _ _ _).drewN _⟩
  · have HX : Hid (Pk.dne (L.drop a) er = er) := by
      show _ = _
      unfold Pk.dne
      rw [if_neg (fun h => he h.1)]
    have he' : (er == 0) = false := by simpa using he
    go_enter Try.func37, Try.ntmps37
    go_wp2
    go_quiet (fail)
    go_wp2
    go_ret
    rw [HX.out]
    exact ⟨rfl, (Kp.refl _ _ _).drewN _⟩

end Go.Proofs.Ytgokhagbknlfaaa
