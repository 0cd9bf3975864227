/-
  The contracts of package quaysidekit, more: SpoilBytes.
-/
import Derived.Test.YtpdkfafnffihjaaDoorKit
import Derived.Test.YtpdkfafnffihjaaDoorPick
namespace Go.Proofs.YtpdkfafnffihjaaDoor
open Go.RowKit

theorem cell_row {w : World} {g : Nat} {cur : Array Value} {e : TypeId} (h : w.heap[g]? = some (.cells cur e (0, 0))) {k : Nat} (hk : k < cur.size) :
    w.cell? ⟨g, k, none⟩ = some (cur.getD k undef) ∧ w.frozen? ⟨g, k, none⟩ = false := by
  simp [World.cell?, World.frozen?, h, hk]

theorem set_row {w : World} {g : Nat} {cur : Array Value} {e : TypeId} (h : w.heap[g]? = some (.cells cur e (0, 0))) (k : Nat) (u : Value) :
    (w.setCell ⟨g, k, none⟩ u).heap[g]? = some (.cells (cur.setIfInBounds k u) e (0, 0)) := by
  simp [World.setCell, Array.getElem?_modify, h]

/-- SpoilBytes: only the row that it is given turns. -/
theorem spoil_any {lo hi : Nat} (v : Value) (l : List Int) (w : World) (h : OwnI .u8 5 lo hi w v l) (hl : l.length ≤ 140737488351232) :
    Calls Tryd.prog 15 #[v] w fun e w' => e = .returned (.tuple #[]) ∧ Kp lo hi w w' := by
  obtain ⟨⟨h1, h2⟩, h3⟩ := h
  rcases h2 with ⟨rfl, hn⟩ | ⟨g, cap, cur, rfl, hb, hg, hn, hc, hs, ht⟩
  · rw [hn] at *
    go_enter Tryd.func15, Tryd.ntmps15
    go_wp2
    refine wp_loop_rounds 1 ?_
    rw [rounds_succ]
    go_wp2
    go_end0
    exact ⟨rfl, Kp.refl _ _ _⟩
  · have hgh := h3 g rfl
    have H1 := Lib.hid hg
    have hcs : l.length ≤ cur.size := by omega
    clear h1 h3 hg ht hs hc
    have hcap : cap = cap := rfl
    generalize hL : l.length = n at *
    go_enter Tryd.func15, Tryd.ntmps15
    go_wp2
    go_loopw [2] (fun i wr => ∃ k : Nat, k ≤ n ∧ i = .int .i64 k ∧ (∃ c2, wr.heap[g]? = some (.cells c2 5 (0, 0)) ∧ n ≤ c2.size) ∧ Kp lo hi w wr) (fun i _ => n - (intOf i).toNat)
    case atStart => exact ⟨0, Nat.zero_le _, rfl, ⟨cur, H1.out, hcs⟩, Kp.refl _ _ _⟩
    case round =>
      obtain ⟨k, hk, rfl, ⟨c2, hc2, hn2⟩, hkp⟩ := hrel
      by_cases hlt : k < n
      · obtain ⟨d1, d2⟩ := cell_row hc2 (k := k) (by omega)
        have HS := Lib.hid (set_row hc2 k)
        clear hc2
        generalize c2.getD k undef = x at d1
        go_wp2_with (go_at_call 27; refine (mark_any _ _ (by omega) (by omega)).mono ?_; rintro e w1 ⟨rfl, rfl⟩)
        go_roundw
        case rel =>
          refine ⟨k + 1, by omega, by go_num, ⟨_, HS.out _, by simpa using hn2⟩, hkp.setCell (.inr ⟨hb, hgh⟩) _⟩
        case measure => simp [intOf]; omega
      · go_wp2
        go_end0
        exact ⟨rfl, hkp⟩

end Go.Proofs.YtpdkfafnffihjaaDoor
