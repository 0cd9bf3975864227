/-
  The contracts of package quaysideref01's Reader, the second part: number, counted, Int, Count, Blob, Done.
-/
import Derived.Test.YtomefjfhccicaaaRef3
import Derived.Test.YtomefjfhccicaaaRead2
import Derived.BigRegion
import Derived.StillTailTactics
namespace Go.Proofs.Ytomefjfhccicaaa
open Go.RowKit

theorem refNum_any {p lo : Nat} (L : List Int) (a : Nat) (er : Int) (w : World) (h : RefR p lo w L a er) (hL : L.length ≤ 140737488351232) (hb : ∀ y ∈ L, 0 ≤ y ∧ y < 256) :
    Calls Try.prog 39 #[.pointer (some ⟨p, 0, none⟩), .int .i64 (a : Int)] w (Tells3 w (Pk.num (L.drop a))) := by
  by_cases ha : a < L.length
  · have hx := hb L[a] (List.getElem_mem ha)
    have hsOf : (16 < L[a] ∧ Pk.sOf L[a] = L[a] - 16) ∨ (L[a] ≤ 16 ∧ Pk.sOf L[a] = L[a]) := by
      unfold Pk.sOf
      split <;> omega
    have e : L.drop a = L[a] :: L.drop (a + 1) := List.drop_eq_getElem_cons ha
    rw [e]
    show Calls _ _ _ _ (Tells3 w (Pk.numC (decide (16 < L[a])) (Pk.sOf L[a]) (L.drop (a + 1))))
    obtain ⟨n, hn⟩ : ∃ n : Nat, Pk.sOf L[a] = (n : Int) := ⟨(Pk.sOf L[a]).toNat, by omega⟩
    rw [hn] at hsOf ⊢
    exact refNum_in L _ a n er L[a] w h hL ha hx (by simp [List.getD, ha]) rfl (fun y hy => hb y (List.mem_of_mem_drop hy)) (by omega)
  · obtain ⟨v, hh, hr, hal⟩ := h
    have hal2 : a = L.length := by omega
    subst hal2
    rw [List.drop_length]
    show Calls _ _ _ _ (Tells3 w (0, 0, 4))
    obtain ⟨ao, c, rfl, hlc, hc63, _⟩ := hr.open
    obtain ⟨c0, c1, c2, f0, f1, f2⟩ := cell_three hh
    clear hr hh hb ha
    go_enter Try.func39, Try.ntmps39
    go_wp2
    go_ret3
    exact ⟨rfl, Kp.refl _ _ _⟩

theorem refCnt_any {p lo : Nat} (most : Int) (L : List Int) (a : Nat) (er : Int) (w : World) (h : RefR p lo w L a er) (hL : L.length ≤ 140737488351232) (hb : ∀ y ∈ L, 0 ≤ y ∧ y < 256) :
    Calls Try.prog 42 #[.pointer (some ⟨p, 0, none⟩), .int .i64 most] w (Tells3 w (Pk.cnt most (L.drop a))) := by
  have HA := Lib.hid (refNum_any L a er w h hL hb)
  have HN : Hid (Pk.cnt most (L.drop a) = if (Pk.num (L.drop a)).2.2 = 0 ∧ ((Pk.num (L.drop a)).1 < 0 ∨ most < (Pk.num (L.drop a)).1) then (0, 0, 3) else Pk.num (L.drop a)) := rfl
  generalize Pk.cnt most (L.drop a) = q at HN ⊢
  generalize Pk.num (L.drop a) = r at HA HN
  obtain ⟨n, k, e⟩ := r
  obtain ⟨v, hh, hr, hal⟩ := h
  obtain ⟨ao, c, rfl, hlc, hc63, _⟩ := hr.open
  obtain ⟨c0, c1, c2, f0, f1, f2⟩ := cell_three hh
  clear hr hh hb hal hL hlc
  by_cases he : e = 0
  · by_cases h1 : n < 0
    · obtain rfl : q = (0, 0, 3) := by rw [HN.out, if_pos ⟨he, .inl h1⟩]
      subst he
      go_enter Try.func42, Try.ntmps42
      go_wp2_with fail
      refine HA.out.mono ?_
      rintro e w1 ⟨rfl, hk⟩
      have HK := Lib.hid hk
      clear hk
      go_wp2_with fail
      go_ret3
      exact ⟨rfl, HK.out⟩
    · by_cases h2 : most < n
      · obtain rfl : q = (0, 0, 3) := by rw [HN.out, if_pos ⟨he, .inr h2⟩]
        subst he
        go_enter Try.func42, Try.ntmps42
        go_wp2_with fail
        refine HA.out.mono ?_
        rintro e w1 ⟨rfl, hk⟩
        have HK := Lib.hid hk
        clear hk
        go_wp2_with fail
        go_ret3
        exact ⟨rfl, HK.out⟩
      · obtain rfl : q = (n, k, e) := by rw [HN.out, if_neg (fun hc => hc.2.elim h1 h2)]
        subst he
        go_enter Try.func42, Try.ntmps42
        go_wp2_with fail
        refine HA.out.mono ?_
        rintro e w1 ⟨rfl, hk⟩
        have HK := Lib.hid hk
        clear hk
        go_wp2_with fail
        go_ret3
        exact ⟨rfl, HK.out⟩
  · obtain rfl : q = (n, k, e) := by rw [HN.out, if_neg (fun hc => he hc.1)]
    have he' : (e == 0) = false := beq_eq_false_iff_ne.2 he
    go_enter Try.func42, Try.ntmps42
    go_wp2_with fail
    refine HA.out.mono ?_
    rintro e w1 ⟨rfl, hk⟩
    have HK := Lib.hid hk
    clear hk
    go_wp2_with fail
    go_ret3
    exact ⟨rfl, HK.out⟩

/-- The state of the document's reader as a pair. -/
theorem nxt_drop {L : List Int} {a k : Nat} {e : Int} (h : e ≠ 0 → k = 0) : (Pk.nxt (L.drop a) k e).1 = L.drop (a + k) := by
  unfold Pk.nxt
  by_cases he : e = 0
  · rw [if_pos he, List.drop_drop]
  · rw [if_neg he, h he]
    rfl

set_option maxHeartbeats 400000 in
theorem refRInt_any {p lo : Nat} (L : List Int) (a : Nat) (er : Int) (w : World) (h : RefR p lo w L a er) (hL : L.length ≤ 140737488351232) (hb : ∀ y ∈ L, 0 ≤ y ∧ y < 256) :
    Calls Try.prog 22 #[.pointer (some ⟨p, 0, none⟩)] w fun e w' => e = .returned (.int .i64 (Pk.rdInt (L.drop a) er).1) ∧
      (∃ a', L.drop a' = (Pk.rdInt (L.drop a) er).2.1 ∧ RefR p lo w' L a' (Pk.rdInt (L.drop a) er).2.2) ∧ Kp p (p + 1) w w' := by
  by_cases he : er = 0
  · have HA := Lib.hid (refNum_any L a er w h hL hb)
    have hf := Pk.num_facts (l := L.drop a) fun y hy => hb y (List.mem_of_mem_drop hy)
    have HX : Hid (Pk.rdInt (L.drop a) er = ((if (Pk.num (L.drop a)).2.2 = 0 then (Pk.num (L.drop a)).1 else 0), Pk.nxt (L.drop a) (Pk.num (L.drop a)).2.1 (Pk.num (L.drop a)).2.2)) := by show _ = _; unfold Pk.rdInt; rw [if_pos he]
    generalize Pk.rdInt (L.drop a) er = q at HX ⊢
    generalize Pk.num (L.drop a) = r at HA HX hf
    obtain ⟨n, k, e⟩ := r
    rw [List.length_drop] at hf
    obtain ⟨hf1, hf2⟩ := hf
    have HF1 : Hid (e ≠ 0 → n = 0 ∧ k = 0) := hf1
    have hf2' : k ≤ L.length - a := hf2
    clear hf1 hf2
    obtain ⟨v, hh, hr, hal⟩ := h
    obtain ⟨ao, c, rfl, hlc, hc63, _⟩ := hr.open
    obtain ⟨c0, c1, c2, f0, f1, f2⟩ := cell_three hh
    have HH := Lib.hid hh
    have HR := Lib.hid hr
    have HE := Lib.hid he
    rw [he] at c2
    clear hr hh hb he
    go_enter Try.func22, Try.ntmps22
    go_wp2_with fail
    refine HA.out.mono ?_
    rintro e1 w1 ⟨rfl, hk⟩
    have HK := Lib.hid hk
    have HH1 := Lib.hid (hk.heap HH.out (.inr (Nat.zero_le _)))
    obtain ⟨d0, d1, d2, g0, g1, g2⟩ := cell_three HH1.out
    clear hk
    go_wp2_with fail
    go_ret
    have hk1 : Kp p (p + 1) w1 ((w1.setCell ⟨p, 1, none⟩ (.int .i64 ((a : Int) + k))).setCell ⟨p, 2, none⟩ (.int .i64 e)) := ((Kp.refl p (p + 1) w1).setCell (.inr ⟨Nat.le_refl _, Nat.lt_succ_self _⟩) _).setCell (.inr ⟨Nat.le_refl _, Nat.lt_succ_self _⟩) _
    rw [HX.out]
    refine ⟨?_, ⟨a + k, (nxt_drop fun h => (HF1.out h).2).symm, ?_⟩, HK.out.any.trans hk1⟩
    · by_cases h0 : e = 0
      · rw [if_pos h0]
        rfl
      · rw [if_neg h0]
        have := (HF1.out h0).1
        subst this
        rfl
    · have hs := set_three2 (set_three1 HH1.out (.int .i64 ((a : Int) + k))) (.int .i64 e)
      refine ⟨_, ?_, (HR.out.keep0 HK.out).keep hk1 fun b _ h2 => by omega, by omega⟩
      rw [Int.natCast_add]
      exact hs
  · have HX : Hid (Pk.rdInt (L.drop a) er = (0, L.drop a, er)) := by show _ = _; unfold Pk.rdInt; rw [if_neg he]
    have H := Lib.hid h
    obtain ⟨v, hh, hr, hal⟩ := h
    obtain ⟨ao, c, rfl, hlc, hc63, _⟩ := hr.open
    obtain ⟨c0, c1, c2, f0, f1, f2⟩ := cell_three hh
    have hne : (er != 0) = true := by simpa using he
    clear hr hh hb
    go_enter Try.func22, Try.ntmps22
    go_wp2
    go_ret
    rw [HX.out]
    exact ⟨rfl, ⟨a, rfl, H.out⟩, Kp.refl _ _ _⟩

set_option maxHeartbeats 400000 in
theorem refRCnt_any {p lo : Nat} (most : Int) (L : List Int) (a : Nat) (er : Int) (w : World) (h : RefR p lo w L a er) (hL : L.length ≤ 140737488351232) (hb : ∀ y ∈ L, 0 ≤ y ∧ y < 256) :
    Calls Try.prog 24 #[.pointer (some ⟨p, 0, none⟩), .int .i64 most] w fun e w' => e = .returned (.int .i64 (Pk.rdCnt most (L.drop a) er).1) ∧
      (∃ a', L.drop a' = (Pk.rdCnt most (L.drop a) er).2.1 ∧ RefR p lo w' L a' (Pk.rdCnt most (L.drop a) er).2.2) ∧ Kp p (p + 1) w w' := by
  by_cases he : er = 0
  · have HA := Lib.hid (refCnt_any most L a er w h hL hb)
    have hf := Pk.cnt_facts (m := most) (l := L.drop a) fun y hy => hb y (List.mem_of_mem_drop hy)
    have HX : Hid (Pk.rdCnt most (L.drop a) er = ((if (Pk.cnt most (L.drop a)).2.2 = 0 then (Pk.cnt most (L.drop a)).1 else 0), Pk.nxt (L.drop a) (Pk.cnt most (L.drop a)).2.1 (Pk.cnt most (L.drop a)).2.2)) := by show _ = _; unfold Pk.rdCnt; rw [if_pos he]
    generalize Pk.rdCnt most (L.drop a) er = q at HX ⊢
    generalize Pk.cnt most (L.drop a) = r at HA HX hf
    obtain ⟨n, k, e⟩ := r
    rw [List.length_drop] at hf
    obtain ⟨hf1, hf2⟩ := hf
    have HF1 : Hid (e ≠ 0 → n = 0 ∧ k = 0) := hf1
    have hf2' : k ≤ L.length - a := hf2
    clear hf1 hf2
    obtain ⟨v, hh, hr, hal⟩ := h
    obtain ⟨ao, c, rfl, hlc, hc63, _⟩ := hr.open
    obtain ⟨c0, c1, c2, f0, f1, f2⟩ := cell_three hh
    have HH := Lib.hid hh
    have HR := Lib.hid hr
    have HE := Lib.hid he
    rw [he] at c2
    clear hr hh hb he
    go_enter Try.func24, Try.ntmps24
    go_wp2_with fail
    refine HA.out.mono ?_
    rintro e1 w1 ⟨rfl, hk⟩
    have HK := Lib.hid hk
    have HH1 := Lib.hid (hk.heap HH.out (.inr (Nat.zero_le _)))
    obtain ⟨d0, d1, d2, g0, g1, g2⟩ := cell_three HH1.out
    clear hk
    go_wp2_with fail
    go_ret
    have hk1 : Kp p (p + 1) w1 ((w1.setCell ⟨p, 1, none⟩ (.int .i64 ((a : Int) + k))).setCell ⟨p, 2, none⟩ (.int .i64 e)) := ((Kp.refl p (p + 1) w1).setCell (.inr ⟨Nat.le_refl _, Nat.lt_succ_self _⟩) _).setCell (.inr ⟨Nat.le_refl _, Nat.lt_succ_self _⟩) _
    rw [HX.out]
    refine ⟨?_, ⟨a + k, (nxt_drop fun h => (HF1.out h).2).symm, ?_⟩, HK.out.any.trans hk1⟩
    · by_cases h0 : e = 0
      · rw [if_pos h0]
        rfl
      · rw [if_neg h0]
        have := (HF1.out h0).1
        subst this
        rfl
    · have hs := set_three2 (set_three1 HH1.out (.int .i64 ((a : Int) + k))) (.int .i64 e)
      refine ⟨_, ?_, (HR.out.keep0 HK.out).keep hk1 fun b _ h2 => by omega, by omega⟩
      rw [Int.natCast_add]
      exact hs
  · have HX : Hid (Pk.rdCnt most (L.drop a) er = (0, L.drop a, er)) := by show _ = _; unfold Pk.rdCnt; rw [if_neg he]
    have H := Lib.hid h
    obtain ⟨v, hh, hr, hal⟩ := h
    obtain ⟨ao, c, rfl, hlc, hc63, _⟩ := hr.open
    obtain ⟨c0, c1, c2, f0, f1, f2⟩ := cell_three hh
    have hne : (er != 0) = true := by simpa using he
    clear hr hh hb
    go_enter Try.func24, Try.ntmps24
    go_wp2
    go_ret
    rw [HX.out]
    exact ⟨rfl, ⟨a, rfl, H.out⟩, Kp.refl _ _ _⟩

theorem refDone_any {p lo : Nat} (L : List Int) (a : Nat) (er : Int) (w : World) (h : RefR p lo w L a er) :
    Calls Try.prog 28 #[.pointer (some ⟨p, 0, none⟩)] w fun e w' => e = .returned (.int .i64 (Pk.dne (L.drop a) er)) ∧ Kp 0 0 w w' := by
  obtain ⟨v, hh, hr, hal⟩ := h
  obtain ⟨ao, c, rfl, hlc, hc63, _⟩ := hr.open
  obtain ⟨c0, c1, c2, f0, f1, f2⟩ := cell_three hh
  clear hr hh
  by_cases he : er = 0
  · subst he
    by_cases hl : a < L.length
    · have HX : Hid (Pk.dne (L.drop a) 0 = 5) := by
        show _ = _
        unfold Pk.dne
        rw [if_pos ⟨rfl, fun e => by have := congrArg List.length e; rw [List.length_drop] at this; simp at this; omega⟩]
      go_enter Try.func28, Try.ntmps28
      go_wp2
      go_quiet (fail)
      go_wp2
      go_ret
      rw [HX.out]
      exact ⟨rfl, (Kp.refl _ _ _).drewN _⟩
    · have HX : Hid (Pk.dne (L.drop a) 0 = 0) := by
        show _ = _
        unfold Pk.dne
        rw [if_neg (fun h => h.2 (List.drop_eq_nil_of_le (by omega)))]
      have hd : decide ((a : Int) < (L.length : Int)) = false := by simp; omega
      go_enter Try.func28, Try.ntmps28
      go_wp2
      go_quiet (fail)
      go_wp2
      go_ret
      rw [HX.out]
      exact ⟨rfl, (Kp.refl _ _ _).drewN _⟩
  · have HX : Hid (Pk.dne (L.drop a) er = er) := by
      show _ = _
      unfold Pk.dne
      rw [if_neg (fun h => he h.1)]
    have he' : (er == 0) = false := by simpa using he
    go_enter Try.func28, Try.ntmps28
    go_wp2
    go_quiet (fail)
    go_wp2
    go_ret
    rw [HX.out]
    exact ⟨rfl, (Kp.refl _ _ _).drewN _⟩

/-- s[i:i+m], as the walk writes it. -/
theorem mid_slice {K : IntKind} {lo hi : Nat} {w : World} {ao : Option Addr} {c : Nat} {L : List Int} {a k m : Nat} (h : RdI K lo hi w (.slice ao L.length c) L) (hm : a + k + m ≤ L.length) :
    RdI K lo hi w (.slice (if c = a + k then ao else Option.map (fun x => x.add (a + k)) ao) (a + k + m - (a + k)) (c - (a + k))) (((L.drop a).drop k).take m) := by
  rw [List.drop_drop]
  have hl : a + k + m - (a + k) = m := by omega
  rw [hl]
  obtain ⟨_, ao', c', he, h2, _, _, _⟩ := id h
  simp only [Value.slice.injEq] at he
  obtain ⟨rfl, _, rfl⟩ := he
  have hs := h.suf (n := a + k) (by omega)
  have hd : (L.drop (a + k)).length = L.length - (a + k) := List.length_drop
  rw [← hd] at hs
  have hp := hs.pre (n := m) (by rw [hd]; omega)
  by_cases hc : c = a + k
  · rw [if_pos hc]
    have hm0 : m = 0 := by omega
    subst hm0
    rw [List.take_zero]
    exact ⟨rfl, ao, c - (a + k), rfl, Nat.zero_le _, by unfold maxLen; have := h.open; obtain ⟨_, _, he, _, h3, _⟩ := this; simp only [Value.slice.injEq] at he; obtain ⟨_, _, rfl⟩ := he; omega, fun _ => by omega, fun j u hu => by simp at hu⟩
  · rw [if_neg hc]
    exact hp

set_option maxHeartbeats 400000 in
theorem refRBlb_any {p lo : Nat} (L : List Int) (a : Nat) (er : Int) (w : World) (h : RefR p lo w L a er) (hL : L.length ≤ 140737488351232) (hb : ∀ y ∈ L, 0 ≤ y ∧ y < 256) :
    Calls Try.prog 26 #[.pointer (some ⟨p, 0, none⟩)] w fun e w' => (∃ v, e = .returned v ∧ OwnI .u8 5 w.heap.size w'.heap.size w' v (Pk.rdBlb (L.drop a) er).1) ∧
      (∃ a', L.drop a' = (Pk.rdBlb (L.drop a) er).2.1 ∧ RefR p lo w' L a' (Pk.rdBlb (L.drop a) er).2.2) ∧ Kp p (p + 1) w w' := by
  by_cases he : er = 0
  · have HA := Lib.hid (refCnt_any 2147483647 L a er w h hL hb)
    have hf := Pk.cnt_facts (m := 2147483647) (l := L.drop a) fun y hy => hb y (List.mem_of_mem_drop hy)
    have HB : Hid (Pk.blb (L.drop a) = if (Pk.cnt 2147483647 (L.drop a)).2.2 ≠ 0 then ([], 0, (Pk.cnt 2147483647 (L.drop a)).2.2)
      else if (((L.drop a).drop (Pk.cnt 2147483647 (L.drop a)).2.1).length : Int) < (Pk.cnt 2147483647 (L.drop a)).1 then ([], 0, 4)
      else (((L.drop a).drop (Pk.cnt 2147483647 (L.drop a)).2.1).take (Pk.cnt 2147483647 (L.drop a)).1.toNat, (Pk.cnt 2147483647 (L.drop a)).2.1 + (Pk.cnt 2147483647 (L.drop a)).1.toNat, 0)) := rfl
    have HG : Hid ((Pk.cnt 2147483647 (L.drop a)).2.2 = 0 → 0 ≤ (Pk.cnt 2147483647 (L.drop a)).1 ∧ (Pk.cnt 2147483647 (L.drop a)).1 ≤ 2147483647) := fun h => cnt_range h
    have HX : Hid (Pk.rdBlb (L.drop a) er = ((if (Pk.blb (L.drop a)).2.2 = 0 then (Pk.blb (L.drop a)).1 else []), Pk.nxt (L.drop a) (Pk.blb (L.drop a)).2.1 (Pk.blb (L.drop a)).2.2)) := by show _ = _; unfold Pk.rdBlb; rw [if_pos he]
    generalize Pk.rdBlb (L.drop a) er = q at HX ⊢
    generalize Pk.blb (L.drop a) = r at HX HB
    generalize Pk.cnt 2147483647 (L.drop a) = s at HA HB HG hf
    obtain ⟨n, k, e⟩ := s
    rw [List.length_drop] at hf
    obtain ⟨hf1, hf2⟩ := hf
    have HF1 : Hid (e ≠ 0 → n = 0 ∧ k = 0) := hf1
    have hf2' : k ≤ L.length - a := hf2
    clear hf1 hf2
    obtain ⟨v, hh, hr, hal⟩ := h
    obtain ⟨ao, c, rfl, hlc, hc63, _⟩ := hr.open
    obtain ⟨c0, c1, c2, f0, f1, f2⟩ := cell_three hh
    have HH := Lib.hid hh
    have HR := Lib.hid hr
    have HE := Lib.hid he
    rw [he] at c2
    clear hr hh hb he
    by_cases h0 : e = 0
    · subst h0
      have hg : 0 ≤ n ∧ n ≤ 2147483647 := HG.out rfl
      obtain ⟨m, rfl⟩ := Int.eq_ofNat_of_zero_le hg.1
      have hlen : ((L.drop a).drop k).length = L.length - a - k := by rw [List.length_drop, List.length_drop]
      by_cases hs : L.length - a - k < m
      · obtain rfl : r = ([], 0, 4) := by rw [HB.out, if_neg (fun hc => hc rfl), if_pos (by show (((L.drop a).drop k).length : Int) < (m : Int); omega)]
        obtain rfl : q = ([], L.drop a, 4) := HX.out
        clear hlen
        go_enter Try.func26, Try.ntmps26
        go_wp2_with fail
        refine HA.out.mono ?_
        rintro e1 w1 ⟨rfl, hk⟩
        have HK := Lib.hid hk
        have HH1 := Lib.hid (hk.heap HH.out (.inr (Nat.zero_le _)))
        obtain ⟨d0, d1, d2, g0, g1, g2⟩ := cell_three HH1.out
        clear hk
        go_wp2_with fail
        go_quiet (fail)
        go_wp2_with fail
        go_ret
        have hk1 : Kp p (p + 1) w1 ((w1.drewN nq).setCell ⟨p, 2, none⟩ (.int .i64 4)) := ((Kp.refl p (p + 1) w1).drewN nq).setCell (.inr ⟨Nat.le_refl _, Nat.lt_succ_self _⟩) _
        refine ⟨⟨_, rfl, OwnI.nil _ _ _ _ _⟩, ⟨a, rfl, ?_⟩, HK.out.any.trans hk1⟩
        have hs := set_three2 (w := w1.drewN nq) HH1.out (.int .i64 4)
        exact ⟨_, hs, (HR.out.keep0 HK.out).keep hk1 fun b _ h2 => by omega, by omega⟩
      · obtain rfl : r = (((L.drop a).drop k).take m, k + m, 0) := by rw [HB.out, if_neg (fun hc => hc rfl), if_neg (by show ¬ (((L.drop a).drop k).length : Int) < (m : Int); omega)]; rfl
        obtain rfl : q = (((L.drop a).drop k).take m, (L.drop a).drop (k + m), 0) := HX.out
        have hd : decide ((L.length : Int) - a - k < m) = false := by simp; omega
        clear hlen
        have E1 : Hid (IntKind.i64.wrap ((a : Int) + k) = ((a + k : Nat) : Int)) := by show _ = _; rw [IntKind.wrap_i64]; omega
        have E2 : Hid (IntKind.i64.wrap (((a + k : Nat) : Int) + m) = ((a + k + m : Nat) : Int)) := by show _ = _; rw [IntKind.wrap_i64]; omega
        go_enter Try.func26, Try.ntmps26
        go_wp2_with fail
        refine HA.out.mono ?_
        rintro e1 w1 ⟨rfl, hk⟩
        have HK := Lib.hid hk
        have HH1 := Lib.hid (hk.heap HH.out (.inr (Nat.zero_le _)))
        obtain ⟨d0, d1, d2, g0, g1, g2⟩ := cell_three HH1.out
        clear hk
        go_wp2_with fail
        go_quiet (fail)
        go_wp2_with fail
        have HK2 : Hid (Kp 0 0 w (w1.drewN nq)) := HK.out.drewN nq
        have HH2 : Hid ((w1.drewN nq).heap[p]? = some (.cells #[.slice ao L.length c, .int .i64 (a : Int), .int .i64 er] 65 (0, 0))) := HH1.out
        clear d0 d1 d2 g0 g1 g2
        generalize w1.drewN nq = w2 at HK2 HH2 ⊢
        obtain ⟨d0, d1, d2, g0, g1, g2⟩ := cell_three HH2.out
        refine wp_region_still_tail 20 (by kernel_rfl) (by kernel_rfl) ?_
        simp only [List.take_succ_cons, List.take_zero, List.drop_succ_cons, List.drop_zero]
        change wpStill _ _ (World.drew w2) _ _ _
        repeat still_step
        refine wpStill_step (fun K hK => ?_)
        go_simp
        simp only [E1.out, E2.out, Int.toNat_natCast]
        rw [if_pos ⟨by omega, by omega⟩, if_pos ⟨by omega, by omega⟩]
        refine ⟨rfl, hK _ ?_⟩
        clear hK K
        refine wpStill_nil ?_
        change wpList _ _ _ _ _ (World.drew w2)
        have HK3 : Hid (Kp 0 0 w w2.drew) := HK2.out.drew
        have HH3 : Hid (w2.drew.heap[p]? = some (.cells #[.slice ao L.length c, .int .i64 (a : Int), .int .i64 er] 65 (0, 0))) := HH2.out
        clear d0 d1 d2 g0 g1 g2 HH2 HK2
        have HS := Lib.hid (HR.out.keep0 HK3.out)
        generalize w2.drew = w3 at HK3 HH3 HS ⊢
        have hsz := HK3.out.size
        have HSL : Hid (RdI .u8 lo p w3 (.slice (if c = a + k then ao else Option.map (fun x => x.add (a + k)) ao) (a + k + m - (a + k)) (c - (a + k))) (((L.drop a).drop k).take m)) := mid_slice HS.out (by omega)
        generalize (if c = a + k then ao else Option.map (fun x => x.add (a + k)) ao) = ax at HSL ⊢
        have hml : (((L.drop a).drop k).take m).length = m := by rw [List.length_take, List.length_drop, List.length_drop]; omega
        refine wpList_app rfl _ _ 22 rfl w.heap.size 5 .u8 1 Try.underlying22 info_u8 (.slice none 0 0) 0 [] rfl (World.ownsRow_nil _ _ _ _) _ rfl (((L.drop a).drop k).take m) HSL.out (by unfold maxLen; omega) (by omega) hsz ?_
        intro v4 w4 hown4 hg4
        have HK5 : Hid (Kp 0 0 w3 w4) := (Kp.refl 0 0 w3).grown hg4 fun j hj => by simp [Value.ownBlock] at hj
        have HO4 : Hid (OwnI .u8 5 w.heap.size w4.heap.size w4 v4 (((L.drop a).drop k).take m)) := OwnI.of_rowN hown4 (by omega)
        have HEQ : Hid (L.drop (a + k + m) = (L.drop a).drop (k + m)) := by show _ = _; rw [List.drop_drop, Nat.add_assoc]
        have HH4 : Hid (w4.heap[p]? = some (.cells #[.slice ao L.length c, .int .i64 (a : Int), .int .i64 er] 65 (0, 0))) := HK5.out.heap HH3.out (.inr (Nat.zero_le _))
        obtain ⟨d0, d1, d2, g0, g1, g2⟩ := cell_three HH4.out
        clear hown4 hg4 hml
        go_wp2_with fail
        go_ret
        have hk1 : Kp p (p + 1) w4 (w4.setCell ⟨p, 1, none⟩ (.int .i64 ((a : Int) + k + m))) := (Kp.refl p (p + 1) w4).setCell (.inr ⟨Nat.le_refl _, Nat.lt_succ_self _⟩) _
        have hpl : p < w.heap.size := heap_lt HH.out
        refine ⟨⟨_, rfl, ?_⟩, ⟨a + k + m, HEQ.out, ?_⟩, (HK3.out.any.trans HK5.out.any).trans hk1⟩
        · have := HO4.out.keep hk1 fun b h1 _ => by omega
          exact this.there
        · have hs := set_three1 HH4.out (.int .i64 ((a : Int) + k + m))
          rw [HE.out] at hs
          refine ⟨_, ?_, ((HS.out.keep0 HK5.out).keep hk1 fun b _ h2 => by omega), by omega⟩
          rw [Int.natCast_add, Int.natCast_add]
          exact hs
    · obtain rfl : r = ([], 0, e) := by rw [HB.out, if_pos h0]
      obtain rfl : q = ([], L.drop a, e) := by rw [HX.out]; show ((if e = 0 then [] else []), Pk.nxt (L.drop a) 0 e) = _; unfold Pk.nxt; rw [if_neg h0, if_neg h0]
      have he1 : (e == 0) = false := beq_eq_false_iff_ne.2 h0
      have he2 : (e != 0) = true := by simpa using h0
      go_enter Try.func26, Try.ntmps26
      go_wp2_with fail
      refine HA.out.mono ?_
      rintro e1 w1 ⟨rfl, hk⟩
      have HK := Lib.hid hk
      have HH1 := Lib.hid (hk.heap HH.out (.inr (Nat.zero_le _)))
      obtain ⟨d0, d1, d2, g0, g1, g2⟩ := cell_three HH1.out
      clear hk
      go_wp2_with fail
      go_quiet (fail)
      go_wp2_with fail
      go_ret
      have hk1 : Kp p (p + 1) w1 ((w1.drewN nq).setCell ⟨p, 2, none⟩ (.int .i64 e)) := ((Kp.refl p (p + 1) w1).drewN nq).setCell (.inr ⟨Nat.le_refl _, Nat.lt_succ_self _⟩) _
      refine ⟨⟨_, rfl, OwnI.nil _ _ _ _ _⟩, ⟨a, rfl, ?_⟩, HK.out.any.trans hk1⟩
      have hs := set_three2 (w := w1.drewN nq) HH1.out (.int .i64 e)
      exact ⟨_, hs, (HR.out.keep0 HK.out).keep hk1 fun b _ h2 => by omega, by omega⟩
  · have HX : Hid (Pk.rdBlb (L.drop a) er = ([], L.drop a, er)) := by show _ = _; unfold Pk.rdBlb; rw [if_neg he]
    have H := Lib.hid h
    obtain ⟨v, hh, hr, hal⟩ := h
    obtain ⟨ao, c, rfl, hlc, hc63, _⟩ := hr.open
    obtain ⟨c0, c1, c2, f0, f1, f2⟩ := cell_three hh
    have hne : (er != 0) = true := by simpa using he
    clear hr hh hb
    go_enter Try.func26, Try.ntmps26
    go_wp2
    go_ret
    rw [HX.out]
    exact ⟨⟨_, rfl, OwnI.nil _ _ _ _ _⟩, ⟨a, rfl, H.out⟩, Kp.refl _ _ _⟩

end Go.Proofs.Ytomefjfhccicaaa
