/-
  The contracts of package quaysidekit's functions on lists of numbers: compared, copied, lent, kept, written over.
-/
import Derived.Test.YtfijhmlinpjaiaaProg
import Derived.Test.YtfijhmlinpjaiaaLib
import Derived.Deep.QuietTactic
namespace Go.Proofs.Ytfijhmlinpjaiaa
open Go.RowKit

theorem info_int : (Try.prog.info? 3).map (fun i => (i.zero, i.size, i.bytes)) = some (some (.int .i64 0), 1, 8) := by kernel_rfl

/-- Are two lists the same? -/
def eqI (a b : List Int) : Bool := decide (a = b)
theorem eqI_self (a : List Int) : eqI a a = true := by simp [eqI]
theorem eqI_of_ne {a b : List Int} (h : a ≠ b) : eqI a b = false := by simp [eqI, h]
theorem eqI_iff {a b : List Int} : eqI a b = true ↔ a = b := by simp [eqI]

theorem sameI_ne {l1 h1 l2 h2 : Nat} (w : World) (va vb : Value) (la lb : List Int) (ha : RdI .i64 l1 h1 w va la) (hb : RdI .i64 l2 h2 w vb lb) (hne : la.length ≠ lb.length) :
    Calls Try.prog 14 #[va, vb] w fun e w' => e = .returned (.bool false) ∧ Kp 0 0 w w' := by
  obtain ⟨ao, ca, rfl, ha1, ha2, ha3⟩ := ha.open
  obtain ⟨bo, cb, rfl, hb1, hb2, hb3⟩ := hb.open
  have hd : ((la.length : Int) == (lb.length : Int)) = false := beq_eq_false_iff_ne.2 (by omega)
  go_enter Try.func14, Try.ntmps14
  go_wp2
  go_ret
  exact ⟨rfl, Kp.refl _ _ _⟩

theorem sameI_go {l1 h1 l2 h2 : Nat} (w : World) (va vb : Value) (la lb : List Int) (ha : RdI .i64 l1 h1 w va la) (hb : RdI .i64 l2 h2 w vb lb) (he : la.length = lb.length) :
    Calls Try.prog 14 #[va, vb] w fun e w' => e = .returned (.bool (eqI la lb)) ∧ Kp 0 0 w w' := by
  obtain ⟨ao, ca, rfl, ha1, ha2, ha3⟩ := ha.open
  obtain ⟨bo, cb, rfl, hb1, hb2, hb3⟩ := hb.open
  have H := Lib.hid he
  have HE : Hid (∀ x y : Int, ∀ k : Nat, k < la.length → la.getD k 0 = x → lb.getD k 0 = y → (x != y) = true → eqI la lb = false) := by
    intro x y k hk hx hy hxy
    refine eqI_of_ne fun e => ?_
    rw [← e, hx] at hy
    simp [hy] at hxy
  have HF : Hid ((∀ j, j < la.length → la.getD j 0 = lb.getD j 0) → eqI la lb = true) := by
    intro h
    refine eqI_iff.2 (List.ext_getElem he fun j hj1 hj2 => ?_)
    have := h j hj1
    simpa [List.getD, hj1, hj2] using this
  have hmax : la.length ≤ 9223372036854775807 := by omega
  clear ha1 ha2 hb1 hb2
  rw [← he]
  clear he
  go_enter Try.func14, Try.ntmps14
  go_wp2
  go_loopw [5] (fun i wr => ∃ k : Nat, k ≤ la.length ∧ i = .int .i64 k ∧ (∀ j, j < k → la.getD j 0 = lb.getD j 0) ∧ Kp 0 0 w wr) (fun i _ => la.length - (intOf i).toNat)
  case atStart => exact ⟨0, Nat.zero_le _, rfl, by omega, Kp.refl _ _ _⟩
  case round =>
    obtain ⟨k, hk, rfl, hall, hbel⟩ := hrel
    have HA := Lib.hid hall
    clear hall
    by_cases hlt : k < la.length
    · obtain ⟨b1, o1, rfl, _, _, hc1⟩ := ha3 (by omega)
      obtain ⟨b2, o2, rfl, _, _, hc2⟩ := hb3 (by have := H.out; omega)
      have c1 := hbel.cell (hc1 k hlt) (.inr (Nat.zero_le _))
      have c2 := hbel.cell (hc2 k (by have := H.out; omega)) (.inr (Nat.zero_le _))
      clear hc1 hc2
      generalize hx : la.getD k 0 = x at c1
      generalize hy : lb.getD k 0 = y at c2
      have HX := Lib.hid hx
      have HY := Lib.hid hy
      clear hx hy
      go_wp2
      go_quiet (fail)
      go_wp2
      · have hne : (x != y) = true := by assumption
        have hfin : eqI la lb = false := HE.out x y k hlt HX.out HY.out hne
        rw [hfin]
        go_ret
        exact ⟨rfl, hbel.drewN _⟩
      · go_roundw
        case rel =>
          have hne : (x != y) = false := by assumption
          refine ⟨k + 1, by omega, by go_num, fun j hj => ?_, hbel.drewN _⟩
          by_cases hjk : j = k
          · subst hjk
            rw [HX.out, HY.out]
            simpa using hne
          · exact HA.out j (by omega)
        case measure => simp [intOf]; omega
    · have hfin : eqI la lb = true := HF.out fun j hj => HA.out j (by omega)
      go_wp2
      rw [hfin]
      go_ret
      exact ⟨rfl, hbel⟩

/-- SameInts: are two lists of numbers the same? -/
theorem sameI_any {l1 h1 l2 h2 : Nat} (w : World) (va vb : Value) (la lb : List Int) (ha : RdI .i64 l1 h1 w va la) (hb : RdI .i64 l2 h2 w vb lb) :
    Calls Try.prog 14 #[va, vb] w fun e w' => e = .returned (.bool (eqI la lb)) ∧ Kp 0 0 w w' := by
  by_cases he : la.length = lb.length
  · exact sameI_go w va vb la lb ha hb he
  · have hf : eqI la lb = false := eqI_of_ne fun e => he (by rw [e])
    rw [hf]
    exact sameI_ne w va vb la lb ha hb he

theorem sameI_yes {l1 h1 l2 h2 : Nat} (w : World) (va vb : Value) (l : List Int) (ha : RdI .i64 l1 h1 w va l) (hb : RdI .i64 l2 h2 w vb l) :
    Calls Try.prog 14 #[va, vb] w fun e w' => e = .returned (.bool true) ∧ Kp 0 0 w w' := by
  have := sameI_any w va vb l l ha hb
  rwa [eqI_self] at this

theorem take_snoc_getDI {l : List Int} {k : Nat} (h : k < l.length) : l.take (k + 1) = l.take k ++ [l.getD k 0] := by
  rw [List.take_succ_eq_append_getElem h]
  simp [List.getD, h]

set_option maxHeartbeats 400000 in
/-- CopyInts: the same list, in memory of the call's own. -/
theorem copyI_any {l1 h1 : Nat} (w : World) (v : Value) (l : List Int) (h : RdI .i64 l1 h1 w v l) (hl : l.length ≤ 1000000) :
    Calls Try.prog 23 #[v] w fun e w' => ∃ v', e = .returned v' ∧ OwnI .i64 3 w.heap.size w'.heap.size w' v' l ∧ Kp 0 0 w w' := by
  obtain ⟨ao, c, rfl, h2, h3, h4⟩ := h.open
  obtain ⟨i0, hi, hz0, hz1, hz2⟩ := info_parts info_int
  clear h2 h3
  have HF : Hid (∀ (v' : Value) (w' : World), (l.take l.length).length = l.length ∧ OwnI .i64 3 w.heap.size w'.heap.size w' v' (l.take l.length) → OwnI .i64 3 w.heap.size w'.heap.size w' v' l) := fun v' w' h => by simpa using h.2
  go_enter Try.func23, Try.ntmps23
  go_wp2
  go_loopw [3, 4] (fun v' i wr => ∃ k : Nat, k ≤ l.length ∧ i = .int .i64 k ∧ wr.ownsRow w.heap.size 3 1 v' k ((l.take k).map (.int .i64)) ∧ Kp 0 0 w wr) (fun _ i _ => l.length - (intOf i).toNat)
  case atStart => exact ⟨0, Nat.zero_le _, rfl, World.ownsRow_nil _ _ _ _, Kp.refl _ _ _⟩
  case round =>
    obtain ⟨k, hk, rfl, hown, hkp⟩ := hrel
    by_cases hlt : k < l.length
    · obtain ⟨b1, o1, rfl, _, _, hc1⟩ := h4 (by omega)
      have c1 := hkp.cell (hc1 k hlt) (.inr (Nat.zero_le _))
      clear hc1
      have HS := Lib.hid (take_snoc_getDI hlt)
      generalize l.getD k 0 = x at c1 HS
      have hsz := hkp.size
      go_wp2_with (at_builtin; refine wpList_append_own _ rfl _ _ 22 rfl w.heap.size 3 i0 (.int .i64 0) 1 8 Try.underlying22 hi hz0 hz1 hz2 rfl (by decide) _ _ _ rfl (hown.alloc _) ⟨wr.heap.size, 0, none⟩ 1 1 [.int .i64 x] rfl rfl (cell_one _ _ _) (by simp [Value.oneCell']) ?c3 ?c4 ?c5 ?_)
      case c3 => unfold maxLen; omega
      case c4 => omega
      case c5 => simp; omega
      intro v' w1 hown' hg _
      have hkp' : Kp 0 0 w w1 := (hkp.alloc _).grown hg fun j hj => .inl ((hown.lt j hj).1)
      have HK := Lib.hid hkp'
      have HO := Lib.hid hown'
      clear hown' hg hown hkp hkp'
      go_wp2
      go_roundw
      case rel =>
        refine ⟨k + 1, by omega, by go_num, ?_, HK.out⟩
        have ho := HO.out
        rw [HS.out, List.map_append]
        simpa using ho
      case measure => simp [intOf]; omega
    · obtain rfl : k = l.length := by omega
      go_wp2
      go_ret
      have hlen : (l.take l.length).length = l.length := by simp
      refine ⟨_, rfl, HF.out _ _ ⟨hlen, OwnI.of_row ?_⟩, hkp⟩
      rw [hlen]
      exact hown

/-- What SpoilInts writes: bytes. -/
def markI (i : Int) : Int := 7001 + 13 * i

theorem markI_any (i : Int) (w : World) (h0 : 0 ≤ i) (h1 : i ≤ 1000000000) :
    Calls Try.prog 24 #[.int .i64 i] w fun e w' => e = .returned (.int .i64 (markI i)) ∧ w = w' := by
  go_enter Try.func24, Try.ntmps24
  go_wp2
  go_ret
  exact ⟨rfl, rfl⟩


theorem cell_rowI {w : World} {g : Nat} {cur : Array Value} {e : TypeId} (h : w.heap[g]? = some (.cells cur e (0, 0))) {k : Nat} (hk : k < cur.size) :
    w.cell? ⟨g, k, none⟩ = some (cur.getD k undef) ∧ w.frozen? ⟨g, k, none⟩ = false := by
  simp [World.cell?, World.frozen?, h, hk]

theorem set_rowI {w : World} {g : Nat} {cur : Array Value} {e : TypeId} (h : w.heap[g]? = some (.cells cur e (0, 0))) (k : Nat) (u : Value) :
    (w.setCell ⟨g, k, none⟩ u).heap[g]? = some (.cells (cur.setIfInBounds k u) e (0, 0)) := by
  simp [World.setCell, Array.getElem?_modify, h]

/-- SpoilInts: only the row that it is given turns. -/
theorem spoilI_any {lo hi : Nat} (v : Value) (l : List Int) (w : World) (h : OwnI .i64 3 lo hi w v l) (hl : l.length ≤ 1000000) :
    Calls Try.prog 20 #[v] w fun e w' => e = .returned (.tuple #[]) ∧ Kp lo hi w w' := by
  obtain ⟨⟨h1, h2⟩, h3⟩ := h
  rcases h2 with ⟨rfl, hn⟩ | ⟨g, cap, cur, rfl, hb, hg, hn, hc, hs, ht⟩
  · rw [hn] at *
    go_enter Try.func20, Try.ntmps20
    go_wp2
    refine wp_loop_rounds 1 ?_
    rw [rounds_succ]
    go_wp2
    go_end0
    exact ⟨rfl, Kp.refl _ _ _⟩
  · have hgh := h3 g rfl
    have H1 := Lib.hid hg
    have hcs : l.length ≤ cur.size := by omega
    clear h1 h3 hg ht hs hc
    have hcap : cap = cap := rfl
    generalize hL : l.length = n at *
    go_enter Try.func20, Try.ntmps20
    go_wp2
    go_loopw [2] (fun i wr => ∃ k : Nat, k ≤ n ∧ i = .int .i64 k ∧ (∃ c2, wr.heap[g]? = some (.cells c2 3 (0, 0)) ∧ n ≤ c2.size) ∧ Kp lo hi w wr) (fun i _ => n - (intOf i).toNat)
    case atStart => exact ⟨0, Nat.zero_le _, rfl, ⟨cur, H1.out, hcs⟩, Kp.refl _ _ _⟩
    case round =>
      obtain ⟨k, hk, rfl, ⟨c2, hc2, hn2⟩, hkp⟩ := hrel
      by_cases hlt : k < n
      · obtain ⟨d1, d2⟩ := cell_rowI hc2 (k := k) (by omega)
        have HS := Lib.hid (set_rowI hc2 k)
        clear hc2
        generalize c2.getD k undef = x at d1
        go_wp2_with (go_at_call 24; refine (markI_any _ _ (by omega) (by omega)).mono ?_; rintro e w1 ⟨rfl, rfl⟩)
        go_roundw
        case rel =>
          refine ⟨k + 1, by omega, by go_num, ⟨_, HS.out _, by simpa using hn2⟩, hkp.setCell (.inr ⟨hb, hgh⟩) _⟩
        case measure => simp [intOf]; omega
      · go_wp2
        go_end0
        exact ⟨rfl, hkp⟩


/-- The first k marks. -/
def marksI (k : Nat) : List Int := (List.range k).map fun (i : Nat) => markI (i : Int)

theorem marksI_len (k : Nat) : (marksI k).length = k := by simp [marksI]
theorem marksI_snoc (k : Nat) : marksI (k + 1) = marksI k ++ [markI (k : Int)] := by simp [marksI, List.range_succ]
theorem marksI_getD {k j : Nat} (h : j < k) : (marksI k).getD j 0 = markI (j : Int) := by simp [marksI, List.getD, h]

set_option maxHeartbeats 800000 in
/-- LentInts: the list, and five marks behind it, in memory of the call's own. -/
theorem lentI_any {l1 h1 : Nat} (w : World) (v : Value) (l : List Int) (h : RdI .i64 l1 h1 w v l) (hl : l.length ≤ 900000) :
    Calls Try.prog 10 #[v] w fun e w' => ∃ v', e = .returned v' ∧ OwnI .i64 3 w.heap.size w'.heap.size w' v' (l ++ marksI 5) ∧ Kp 0 0 w w' := by
  obtain ⟨i0, hi, hz0, hz1, hz2⟩ := info_parts info_int
  have HC := Lib.hid (copyI_any w v l h (by omega))
  obtain ⟨ao, c, rfl, _, _, _⟩ := h.open
  clear h
  go_enter Try.func10, Try.ntmps10
  go_wp2_with fail
  refine HC.out.mono ?_
  rintro e w1 ⟨v1, rfl, hown, hk⟩
  have HO1 := Lib.hid hown.1
  have HK1 := Lib.hid hk
  clear hown hk
  go_wp2_with fail
  go_loopw [3, 4] (fun v' i wr => ∃ k : Nat, k ≤ 5 ∧ i = .int .i64 k ∧ wr.ownsRow w.heap.size 3 1 v' (l.length + k) ((l ++ marksI k).map (.int .i64)) ∧ Kp 0 0 w wr) (fun _ i _ => 5 - (intOf i).toNat)
  case atStart => exact ⟨0, Nat.zero_le _, rfl, by simpa [marksI] using HO1.out, HK1.out⟩
  case round =>
    obtain ⟨k, hk, rfl, hown, hkp⟩ := hrel
    by_cases hlt : k < 5
    · have HOW := Lib.hid hown
      have HKP := Lib.hid hkp
      clear hown hkp
      have hsz := HKP.out.size
      go_wp2_with fail
      refine (markI_any _ _ (by omega) (by omega)).mono ?_
      rintro e w2 ⟨rfl, rfl⟩
      have HS := Lib.hid (marksI_snoc k)
      generalize markI (k : Int) = m at HS ⊢
      have hown := HOW.out
      go_wp2_with (at_builtin; refine wpList_append_own _ rfl _ _ 22 rfl w.heap.size 3 i0 (.int .i64 0) 1 8 Try.underlying22 hi hz0 hz1 hz2 rfl (by decide) _ _ _ rfl (hown.alloc _) ⟨wr.heap.size, 0, none⟩ 1 1 [.int .i64 m] rfl rfl (cell_one _ _ _) (by simp [Value.oneCell']) ?c3 ?c4 ?c5 ?_)
      case c3 => unfold maxLen; omega
      case c4 => omega
      case c5 => simp; omega
      intro v' w2 hown' hg _
      have HK : Hid (Kp 0 0 w w2) := (HKP.out.alloc _).grown hg fun q hq => .inl ((hown.lt q hq).1)
      have HO := Lib.hid hown'
      clear hown' hg hown
      go_wp2_with fail
      go_roundw
      case rel =>
        refine ⟨k + 1, by omega, by go_num, ?_, HK.out⟩
        have ho := HO.out
        rw [HS.out, ← List.append_assoc, List.map_append]
        simpa [Nat.add_assoc] using ho
      case measure => simp [intOf]; omega
    · obtain rfl : k = 5 := by omega
      go_wp2_with fail
      go_ret
      exact ⟨_, rfl, OwnI.of_rowN hown (by rw [List.length_append, marksI_len]), hkp⟩

set_option maxHeartbeats 800000 in
/-- KeptInts, of what was lent and is as it was: true. -/
theorem keptI_any {l1 h1 l2 h2 : Nat} (w : World) (va vb : Value) (l : List Int) (ha : RdI .i64 l1 h1 w va (l ++ marksI 5)) (hb : RdI .i64 l2 h2 w vb l) (hl : l.length ≤ 900000) :
    Calls Try.prog 21 #[va, vb] w fun e w' => e = .returned (.bool true) ∧ Kp 0 0 w w' := by
  obtain ⟨ao, ca, rfl, ha1, ha2, hca⟩ := ha.open
  obtain ⟨bo, cb, rfl, _, _, _⟩ := hb.open
  have hlen : (l ++ marksI 5).length = l.length + 5 := by rw [List.length_append, marksI_len]
  have hpre := ha.pre (n := l.length) (by rw [hlen]; omega)
  rw [List.take_left] at hpre
  have HS := Lib.hid (sameI_yes w _ _ l hpre hb)
  have HCA : Hid (∃ g o, ao = some ⟨g, o, none⟩ ∧ ∀ j, j < 5 → w.cell? ⟨g, o + (l.length + j), none⟩ = some (.int .i64 (markI (j : Int)))) := by
    obtain ⟨g, o, rfl, _, _, hh⟩ := hca (by rw [hlen]; omega)
    refine ⟨g, o, rfl, fun j hj => ?_⟩
    rw [hh (l.length + j) (by rw [hlen]; omega)]
    have e : (l ++ marksI 5).getD (l.length + j) 0 = markI (j : Int) := by
      rw [← marksI_getD hj]
      simp [List.getD, List.getElem?_append_right]
    rw [e]
  rw [hlen] at ha1
  rw [hlen]
  have i1 : (l.length : Int) ≤ (ca : Int) := by omega
  clear ha hb hca hpre
  obtain ⟨g, o, rfl, hcell⟩ := HCA.out
  have HCC := Lib.hid hcell
  clear hcell HCA
  have hne : ((l.length : Int) + 5 != (l.length : Int) + 5) = false := by simp
  go_enter Try.func21, Try.ntmps21
  go_wp2_with fail
  refine HS.out.mono ?_
  rintro e w1 ⟨rfl, hk⟩
  have HK1 := Lib.hid hk
  clear hk
  go_wp2_with fail
  go_loopw [5] (fun i wr => ∃ k : Nat, k ≤ 5 ∧ i = .int .i64 k ∧ Kp 0 0 w wr) (fun i _ => 5 - (intOf i).toNat)
  case atStart => exact ⟨0, Nat.zero_le _, rfl, HK1.out⟩
  case round =>
    obtain ⟨k, hk, rfl, hkp⟩ := hrel
    by_cases hlt : k < 5
    · have c1 := hkp.cell (HCC.out k hlt) (.inr (Nat.zero_le _))
      have HMK := Lib.hid fun (W : World) => (markI_any (k : Int) W (by omega) (by omega)).mono fun e w' h => (⟨h.1, h.2.symm⟩ : e = .returned (.int .i64 (markI (k : Int))) ∧ w' = W)
      generalize markI (k : Int) = m at c1 HMK
      have j0 : (0 : Int) ≤ (k : Int) := Int.natCast_nonneg _
      have j1 : (l.length : Int) + (k : Int) < (l.length : Int) + 5 := by omega
      have hmm : (m != m) = false := by simp
      go_wp2_with fail
      go_quiet ((go_at_call 24; refine Calls.quiet_of_same (HMK.out _)))
      go_wp2_with fail
      go_roundw
      case rel => exact ⟨k + 1, by omega, by go_num, hkp.drewN _⟩
      case measure => simp [intOf]; omega
    · go_wp2_with fail
      go_ret
      exact ⟨rfl, hkp⟩

end Go.Proofs.Ytfijhmlinpjaiaa
