/-
  SpoilBytes, more: what stays behind it: the sizes of all rows of bytes, and all other rows.
-/
import Derived.Test.YtpdkfafnffihjaaDoorKit2
import Derived.Test.YtpdkfafnffihjaaDoorRight
namespace Go.Proofs.YtpdkfafnffihjaaDoor
open Go.RowKit

/-- A row of bytes, at home at lo or above, that can be written over. -/
def Sp (lo : Nat) (w : World) (v : Value) (n : Nat) : Prop :=
  (v = .slice none 0 0 ∧ n = 0) ∨ ∃ g cap cur, v = .slice (some ⟨g, 0, none⟩) n cap ∧ n ≤ cap ∧ lo ≤ g ∧ w.heap[g]? = some (.cells cur 5 (0, 0)) ∧ n ≤ cur.size

/-- Rows of bytes keep their sizes, all other rows what they hold. -/
def Sz (w w' : World) : Prop :=
  (∀ (g : Nat) (cur : Array Value), w.heap[g]? = some (Obj.cells cur 5 (0, 0)) → ∃ c2 : Array Value, w'.heap[g]? = some (Obj.cells c2 5 (0, 0)) ∧ c2.size = cur.size) ∧
  (∀ (g : Nat) (cur : Array Value) (e : TypeId), e ≠ 5 → w.heap[g]? = some (Obj.cells cur e (0, 0)) → w'.heap[g]? = some (Obj.cells cur e (0, 0)))

theorem Sz.refl (w : World) : Sz w w := ⟨fun _ cur h => ⟨cur, h, rfl⟩, fun _ _ _ _ h => h⟩

theorem Sz.trans {a b c : World} (h : Sz a b) (k : Sz b c) : Sz a c := by
  refine ⟨fun g cur hg => ?_, fun g cur e he hg => k.2 g cur e he (h.2 g cur e he hg)⟩
  obtain ⟨c2, h2, e2⟩ := h.1 g cur hg
  obtain ⟨c3, h3, e3⟩ := k.1 g c2 h2
  exact ⟨c3, h3, by omega⟩

theorem Sz.drew {a b : World} (h : Sz a b) : Sz a b.drew := h

theorem Sz.of_kp {a b : World} (h : Kp 0 0 a b) : Sz a b := ⟨fun _ cur hg => ⟨cur, h.heap hg (.inr (Nat.zero_le _)), rfl⟩, fun _ _ _ _ hg => h.heap hg (.inr (Nat.zero_le _))⟩

theorem Sp.keep {lo : Nat} {w w' : World} {v : Value} {n : Nat} (h : Sp lo w v n) (hs : Sz w w') : Sp lo w' v n := by
  rcases h with h | ⟨g, cap, cur, rfl, h1, h2, h3, h4⟩
  · exact .inl h
  · obtain ⟨c2, h5, h6⟩ := hs.1 g cur h3
    exact .inr ⟨g, cap, c2, rfl, h1, h2, h5, by omega⟩

theorem OwnI.sp {lo hi : Nat} {w : World} {v : Value} {l : List Int} (h : OwnI .u8 5 lo hi w v l) : Sp lo w v l.length := by
  obtain ⟨⟨h1, h2⟩, h3⟩ := h
  rcases h2 with ⟨rfl, hn⟩ | ⟨g, cap, cur, rfl, hb, hg, hn, hc, hs, ht⟩
  · exact .inl ⟨rfl, hn⟩
  · exact .inr ⟨g, cap, cur, rfl, hn, hb, hg, by omega⟩

/-- SpoilBytes: the row that it is given turns, but not its size; nothing else turns. -/
theorem spoil_sz {lo : Nat} (v : Value) (n : Nat) (w : World) (h : Sp lo w v n) (hl : n ≤ 140737488351232) :
    Calls Tryd.prog 15 #[v] w fun e w' => e = .returned (.tuple #[]) ∧ Kp lo w.heap.size w w' ∧ Sz w w' := by
  rcases h with ⟨rfl, rfl⟩ | ⟨g, cap, cur, rfl, hcap, hlo, hg, hcs⟩
  · go_enter Tryd.func15, Tryd.ntmps15
    go_wp2
    refine wp_loop_rounds 1 ?_
    rw [rounds_succ]
    go_wp2
    go_end0
    exact ⟨rfl, Kp.refl _ _ _, Sz.refl _⟩
  · have H1 := Lib.hid hg
    have hgs : g < w.heap.size := heap_lt hg
    clear hg
    go_enter Tryd.func15, Tryd.ntmps15
    go_wp2
    go_loopw [2] (fun i wr => ∃ k : Nat, k ≤ n ∧ i = .int .i64 k ∧ (∃ c2, wr.heap[g]? = some (.cells c2 5 (0, 0)) ∧ c2.size = cur.size) ∧ Kp g (g + 1) w wr) (fun i _ => n - (intOf i).toNat)
    case atStart => exact ⟨0, Nat.zero_le _, rfl, ⟨cur, H1.out, rfl⟩, Kp.refl _ _ _⟩
    case round =>
      obtain ⟨k, hk, rfl, ⟨c2, hc2, hn2⟩, hkp⟩ := hrel
      by_cases hlt : k < n
      · obtain ⟨d1, d2⟩ := cell_row hc2 (k := k) (by omega)
        have HS := Lib.hid (set_row hc2 k)
        clear hc2
        generalize c2.getD k undef = x at d1
        go_wp2_with (go_at_call 27; refine (mark_any _ _ (by omega) (by omega)).mono ?_; rintro e w1 ⟨rfl, rfl⟩)
        go_roundw
        case rel =>
          refine ⟨k + 1, by omega, by go_num, ⟨_, HS.out _, by simpa using hn2⟩, hkp.setCell (.inr ⟨Nat.le_refl _, Nat.lt_succ_self _⟩) _⟩
        case measure => simp [intOf]; omega
      · go_wp2
        go_end0
        refine ⟨rfl, (Kp.refl lo w.heap.size w).step hkp fun j h1 h2 => .inr ⟨by omega, by omega⟩, fun q cq hq => ?_, fun q cq e he hq => ?_⟩
        · by_cases hqg : q = g
          · subst hqg
            rw [H1.out] at hq
            simp only [Option.some.injEq, Obj.cells.injEq] at hq
            exact ⟨c2, hc2, by rw [hn2, hq.1]⟩
          · exact ⟨cq, hkp.heap hq (by omega), rfl⟩
        · refine hkp.heap hq ?_
          by_cases hqg : q = g
          · subst hqg
            rw [H1.out] at hq
            simp only [Option.some.injEq, Obj.cells.injEq] at hq
            exact absurd hq.2.1.symm he
          · omega

/-- A body of a row of frames, behind what was written over. -/
theorem OwnF.body {base hi : Nat} {w wr : World} {ao : Option Addr} {c : Nat} {fs : List (Nat × List Nat)} (h : OwnF base hi w (.slice ao fs.length c) fs) (hs : Sz w wr) {i : Nat} (hi' : i < fs.length) : ∃ g o, ao = some ⟨g, o, none⟩ ∧ ∃ vb, wr.cell? ⟨g, o + i * 2 + 1, none⟩ = some vb ∧ Sp base wr vb (fs.getD i (0, [])).2.length := by
  obtain ⟨vs, h1, ⟨h2, h2'⟩, h3, h4⟩ := h
  rcases h2' with ⟨_, hn⟩ | ⟨g, cap, cur, hv, hb, hg, hn, hc, hsz, ht⟩
  · omega
  · simp only [Value.slice.injEq] at hv
    obtain ⟨rfl, _, rfl⟩ := hv
    obtain ⟨_, e2⟩ := frCells_get fs vs i h1 hi'
    have hg2 := hs.2 g cur 24 (by decide) hg
    refine ⟨g, 0, rfl, vs.getD i undef, ?_, ?_⟩
    · rw [← ht, List.getElem?_take] at e2
      split at e2
      · simp only [World.cell?, hg2, Nat.zero_add]
        simpa using e2
      · cases e2
    · have := ((h4 i hi').sp).keep hs
      rwa [ints_len] at this

end Go.Proofs.YtpdkfafnffihjaaDoor
