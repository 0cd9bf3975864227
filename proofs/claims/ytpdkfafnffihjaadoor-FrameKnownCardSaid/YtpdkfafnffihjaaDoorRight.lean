/-
  quaysidelaw03.right: the frames that may be.
-/
import Derived.Test.YtpdkfafnffihjaaDoorFScan
namespace Go.Proofs.YtpdkfafnffihjaaDoor
open Go.RowKit

/-- Frames that may be: their kinds, their bodies' lengths and bytes. -/
def Good (gs : List (Nat × List Nat)) : Prop := ∀ g ∈ gs, 1 ≤ g.1 ∧ g.1 ≤ 255 ∧ g.2.length ≤ 500 ∧ ∀ x ∈ g.2, x < 256

theorem ownsRow_shape {w : World} {base : Nat} {e : TypeId} {k n : Nat} {v : Value} {xs : List Value} (h : w.ownsRow base e k v n xs) : ∃ ao c, v = .slice ao n c := by
  obtain ⟨_, h2⟩ := h
  rcases h2 with ⟨rfl, rfl⟩ | ⟨g, cap, cur, rfl, _⟩
  · exact ⟨none, 0, rfl⟩
  · exact ⟨_, _, rfl⟩

/-- A row of frames of the call's own, whose bodies read somewhere. -/
theorem rdF_of_row {base lo hi lo' : Nat} {w : World} {v : Value} {fs : List (Nat × List Nat)} {vs : List Value} (h1 : vs.length = fs.length) (h2 : w.ownsRow base 24 2 v fs.length (frCells fs vs)) (hb1 : lo' ≤ base) (hb2 : lo' ≤ lo) (hh : hi ≤ w.heap.size) (h4 : ∀ i, i < fs.length → RdI .u8 lo hi w (vs.getD i undef) (ints (fs.getD i (0, [])).2)) : RdF lo' w.heap.size w v (asF fs) := by
  have hlt := h2.lt
  obtain ⟨_, h2'⟩ := h2
  rcases h2' with ⟨rfl, hn⟩ | ⟨g, cap, cur, rfl, hb, hg, hn, hc, hs, ht⟩
  · exact ⟨none, 0, by rw [asF_len, hn], by rw [asF_len]; omega, by omega, fun h => by rw [asF_len] at h; omega⟩
  · refine ⟨some ⟨g, 0, none⟩, cap, by rw [asF_len], by rw [asF_len]; exact hn, by unfold maxLen at hc; omega, fun _ => ⟨g, 0, rfl, by omega, (hlt g rfl).2, fun i hi => ?_⟩⟩
    rw [asF_len] at hi
    rw [asF_get fs i hi]
    obtain ⟨e1, e2⟩ := frCells_get fs vs i h1 hi
    have hcell : ∀ j u, (frCells fs vs)[j]? = some u → w.cell? ⟨g, 0 + j, none⟩ = some u := fun j u hu => by
      rw [← ht, List.getElem?_take] at hu
      split at hu
      · simp only [World.cell?, hg, Nat.zero_add]
        simpa using hu
      · cases hu
    refine ⟨hcell _ _ e1, _, ?_, (h4 i hi).wide hb2 hh⟩
    have := hcell _ _ e2
    rwa [← Nat.add_assoc] at this

set_option maxRecDepth 100000 in
set_option maxHeartbeats 1000000 in
theorem right_any {h1 : Nat} (fs : List (Int × List Nat)) (w : World) (v : Value) (hr : RdF 0 h1 w v fs) (rb : ∀ f ∈ fs, ∀ x ∈ f.2, x < 256) (hw : h1 ≤ w.heap.size) :
    Calls Tryd.prog 21 #[v] w fun e w' => ∃ v' gs, e = .returned v' ∧ RdF 0 w'.heap.size w' v' (asF gs) ∧ gs.length ≤ 20 ∧ Good gs ∧ Kp 0 0 w w' := by
  obtain ⟨ao, c, rfl, ha1, ha2, ha3⟩ := hr
  have HA := Lib.hid ha3
  have RB : Hid (∀ k, k < fs.length → ∀ x ∈ (fs.getD k (0, [])).2, x < 256) := fun k hk => by
    have : fs.getD k (0, []) ∈ fs := by simp [List.getD, hk]
    exact rb _ this
  have hmax : fs.length ≤ 9223372036854775807 := by omega
  obtain ⟨i0, hi, hz0, hz1, hz2⟩ := info_parts info_frame
  have HW := Lib.hid hw
  clear ha1 ha2 ha3 rb hw
  go_enter Tryd.func21, Tryd.ntmps21
  go_wp2_with fail
  go_loopw [3, 4] (fun v' i wr => ∃ (k : Nat) (gs : List (Nat × List Nat)) (vs : List Value), i = .int .i64 k ∧ k ≤ fs.length ∧ vs.length = gs.length ∧ gs.length ≤ 20 ∧ wr.ownsRow w.heap.size 24 2 v' gs.length (frCells gs vs) ∧ Hid (∀ i, i < gs.length → RdI .u8 0 h1 w (vs.getD i undef) (ints (gs.getD i (0, [])).2)) ∧ Hid (Good gs) ∧ Kp 0 0 w wr) (fun _ i _ => fs.length - (intOf i).toNat)
  case atStart => exact ⟨0, [], [], rfl, Nat.zero_le _, rfl, by decide, World.ownsRow_nil _ _ _ _, fun i hi => by simp at hi, fun g hg => by simp at hg, Kp.refl _ _ _⟩
  case round =>
    obtain ⟨k, gs, vs, rfl, hk, hvs, hg20, hown, HOB, HGD, hkp⟩ := hrel
    have HOWN := Lib.hid hown
    obtain ⟨ao4, c4, rfl⟩ := ownsRow_shape hown
    have HKP := Lib.hid hkp
    have hkm : (k : Int) ≤ 9223372036854775807 := by omega
    by_cases hlt : k < fs.length
    · by_cases h20 : gs.length < 20
      · obtain ⟨g1, o1, rfl, _, _, hc1⟩ := HA.out (by omega)
        obtain ⟨c1, vb, d1, r1⟩ := hc1 k hlt
        obtain ⟨ab, cb, rfl, hb1, hb2, _⟩ := r1.open
        have c1 := hkp.cell c1 (.inr (Nat.zero_le _))
        have d1 := hkp.cell d1 (.inr (Nat.zero_le _))
        have R1 := Lib.hid r1
        have RBK := Lib.hid (RB.out k hlt)
        clear hc1 r1 hown hkp
        rw [ints_len] at hb1 d1 R1
        generalize hf : fs.getD k (0, []) = f at *
        obtain ⟨x, y⟩ := f
        simp only at c1 hb1 d1 R1 RBK
        by_cases q1 : x < 1
        · go_wp2_with fail
          go_roundw
          case rel => exact ⟨k + 1, gs, vs, by go_num, by omega, hvs, hg20, HOWN.out, HOB, HGD, HKP.out⟩
          case measure => simp [intOf]; omega
        by_cases q2 : 255 < x
        · go_wp2_with fail
          go_roundw
          case rel => exact ⟨k + 1, gs, vs, by go_num, by omega, hvs, hg20, HOWN.out, HOB, HGD, HKP.out⟩
          case measure => simp [intOf]; omega
        by_cases q3 : 500 < y.length
        · go_wp2_with fail
          go_roundw
          case rel => exact ⟨k + 1, gs, vs, by go_num, by omega, hvs, hg20, HOWN.out, HOB, HGD, HKP.out⟩
          case measure => simp [intOf]; omega
        obtain ⟨X, rfl⟩ : ∃ X : Nat, x = X := ⟨x.toNat, by omega⟩
        have C2 := cell_two wr (.int .i64 (X : Int)) (.slice ab y.length cb) 24
        have HRW : Hid ((wr.alloc (.cells #[.int .i64 (X : Int), .slice ab y.length cb] 24)).ownsRow w.heap.size 24 2 (.slice ao4 gs.length c4) gs.length (frCells gs vs)) := HOWN.out.alloc _
        have hsz := HKP.out.size
        go_wp2_with (at_builtin; refine wpList_append_own _ rfl _ _ 35 rfl w.heap.size 24 i0 (.agg #[.int .i64 0, .slice none 0 0]) 2 32 Tryd.underlying35 hi hz0 hz1 hz2 rfl (by decide) _ _ _ rfl HRW.out ⟨wr.heap.size, 0, none⟩ 1 1 [.int .i64 (X : Int), .slice ab y.length cb] rfl rfl C2 ?c1 ?c3 ?c4 ?c5 ?_)
        case c1 => simp [Value.oneCell']
        case c3 => unfold maxLen; omega
        case c4 => omega
        case c5 => first | omega | (simp; omega)
        intro v' w4 hown' hg _
        have HK4 : Hid (Kp 0 0 w w4) := (HKP.out.alloc _).grown hg fun j hj => .inl ((HRW.out.lt j hj).1)
        have HRW2 : Hid (w4.ownsRow w.heap.size 24 2 v' (gs ++ [(X, y)]).length (frCells (gs ++ [(X, y)]) (vs ++ [Value.slice ab y.length cb]))) := by
          show World.ownsRow _ _ _ _ _ _ _
          rw [frCells_snoc gs vs _ _ hvs, List.length_append]
          exact hown'
        have HOB2 : Hid (∀ i, i < (gs ++ [(X, y)]).length → RdI .u8 0 h1 w ((vs ++ [Value.slice ab y.length cb]).getD i undef) (ints ((gs ++ [(X, y)]).getD i (0, [])).2)) := fun i hi => by
          rw [List.length_append] at hi
          by_cases hif : i < gs.length
          · have e1 : (vs ++ [Value.slice ab y.length cb]).getD i undef = vs.getD i undef := by
              have : i < vs.length := by omega
              simp [List.getD, List.getElem?_append_left this]
            have e2 : (gs ++ [(X, y)]).getD i (0, []) = gs.getD i (0, []) := by simp [List.getD, List.getElem?_append_left hif]
            rw [e1, e2]
            exact HOB.out i hif
          · have hi2 : i = gs.length := by simp at hi; omega
            subst hi2
            have e1 : (vs ++ [Value.slice ab y.length cb]).getD gs.length undef = Value.slice ab y.length cb := by
              rw [← hvs]
              simp [List.getD]
            have e2 : (gs ++ [(X, y)]).getD gs.length (0, []) = (X, y) := by simp [List.getD]
            rw [e1, e2]
            exact R1.out
        have HGD2 : Hid (Good (gs ++ [(X, y)])) := fun g hg => by
          rcases List.mem_append.1 hg with hg | hg
          · exact HGD.out g hg
          · simp at hg
            subst hg
            exact ⟨by show 1 ≤ X; omega, by show X ≤ 255; omega, by show y.length ≤ 500; omega, RBK.out⟩
        clear hown' hg C2
        go_wp2_with fail
        go_roundw
        case rel => exact ⟨k + 1, gs ++ [(X, y)], vs ++ [Value.slice ab y.length cb], by go_num, by omega, by rw [List.length_append, List.length_append, hvs]; rfl, by rw [List.length_append]; simp; omega, HRW2.out, HOB2, HGD2, HK4.out⟩
        case measure => simp [intOf]; omega
      · go_wp2_with fail
        go_returns
        exact ⟨_, gs, rfl, rdF_of_row hvs HOWN.out (Nat.zero_le _) (Nat.le_refl _) (Nat.le_trans HW.out HKP.out.size) (fun i hi => (HOB.out i hi).keep0 HKP.out), hg20, HGD.out, HKP.out⟩
    · go_wp2_with fail
      go_returns
      exact ⟨_, gs, rfl, rdF_of_row hvs HOWN.out (Nat.zero_le _) (Nat.le_refl _) (Nat.le_trans HW.out HKP.out.size) (fun i hi => (HOB.out i hi).keep0 HKP.out), hg20, HGD.out, HKP.out⟩

end Go.Proofs.YtpdkfafnffihjaaDoor
