/-
  The contracts of package quaysideref01: Blob, From, and what its Reader reads.
-/
import Derived.Test.YtgokhagbknlfaaaRefI
import Derived.Test.YtgokhagbknlfaaaReadI
namespace Go.Proofs.Ytgokhagbknlfaaa
open Go.RowKit
set_option maxRecDepth 100000

/-- The document's reader in block p: its bytes, where it stands, its error. -/
def RefR (p lo : Nat) (w : World) (L : List Int) (a : Nat) (e : Int) : Prop :=
  ∃ v, w.heap[p]? = some (.cells #[v, .int .i64 (a : Int), .int .i64 e] 88 (0, 0)) ∧ RdI .u8 lo p w v L ∧ a ≤ L.length

theorem RefR.keep {p lo lo' hi' : Nat} {w w' : World} {L : List Int} {a : Nat} {e : Int} (h : RefR p lo w L a e) (hk : Kp lo' hi' w w') (hd : ∀ b, lo ≤ b → b ≤ p → b < lo' ∨ hi' ≤ b) (hlp : lo ≤ p) : RefR p lo w' L a e := by
  obtain ⟨v, h1, h2, h3⟩ := h
  exact ⟨v, hk.heap h1 (hd p hlp (Nat.le_refl _)), h2.keep hk fun b hb1 hb2 => hd b hb1 (by omega), h3⟩

theorem RefR.keep0 {p lo : Nat} {w w' : World} {L : List Int} {a : Nat} {e : Int} (h : RefR p lo w L a e) (hk : Kp 0 0 w w') : RefR p lo w' L a e := by
  obtain ⟨v, h1, h2, h3⟩ := h
  exact ⟨v, hk.heap h1 (.inr (Nat.zero_le _)), h2.keep0 hk, h3⟩

theorem RefR.lt {p lo : Nat} {w : World} {L : List Int} {a : Nat} {e : Int} (h : RefR p lo w L a e) : p < w.heap.size := by
  obtain ⟨v, h1, _⟩ := h
  exact heap_lt h1

theorem cell_three {w : World} {p : Nat} {a b c : Value} {T : TypeId} (h : w.heap[p]? = some (.cells #[a, b, c] T (0, 0))) :
    w.cell? ⟨p, 0, none⟩ = some a ∧ w.cell? ⟨p, 1, none⟩ = some b ∧ w.cell? ⟨p, 2, none⟩ = some c ∧ w.frozen? ⟨p, 0, none⟩ = false ∧ w.frozen? ⟨p, 1, none⟩ = false ∧ w.frozen? ⟨p, 2, none⟩ = false := by
  simp [World.cell?, World.frozen?, h]

theorem set_three1 {w : World} {p : Nat} {a b c : Value} {T : TypeId} (h : w.heap[p]? = some (.cells #[a, b, c] T (0, 0))) (u : Value) : (w.setCell ⟨p, 1, none⟩ u).heap[p]? = some (.cells #[a, u, c] T (0, 0)) := by
  simp [World.setCell, Array.getElem?_modify, h]

theorem set_three2 {w : World} {p : Nat} {a b c : Value} {T : TypeId} (h : w.heap[p]? = some (.cells #[a, b, c] T (0, 0))) (u : Value) : (w.setCell ⟨p, 2, none⟩ u).heap[p]? = some (.cells #[a, b, u] T (0, 0)) := by
  simp [World.setCell, Array.getElem?_modify, h]

theorem refFrom_any {lo hi : Nat} (v : Value) (l : List Int) (w : World) (h : RdI .u8 lo hi w v l) (hl : l.length ≤ 140737488351232) :
    Calls Try.prog 33 #[v] w fun e w' => ∃ p, e = .returned (.pointer (some ⟨p, 0, none⟩)) ∧ w.heap.size ≤ p ∧ RefR p w.heap.size w' l 0 0 ∧ Kp 0 0 w w' := by
  obtain ⟨ao, c, rfl, _, _, _⟩ := h.open
  have H := Lib.hid h
  clear h
  go_enter Try.func33, Try.ntmps33
  go_wp2_with (at_builtin; refine wpList_app rfl _ _ 26 rfl w.heap.size 5 .u8 1 Try.underlying26 info_u8 _ 0 [] rfl (World.ownsRow_nil _ _ _ _) _ rfl l H.out (by unfold maxLen; omega) (by omega) (Nat.le_refl _) ?_)
  intro v2 w2 hown2 hg2
  have HK2 : Hid (Kp 0 0 w w2) := (Kp.refl 0 0 w).grown hg2 fun j hj => by simp [Value.ownBlock] at hj
  have hown3 : OwnI .u8 5 w.heap.size w2.heap.size w2 v2 l := OwnI.of_rowN (n := 0 + l.length) (by simpa using hown2) (by simp)
  obtain ⟨ao1, c1, rfl, _, _, _⟩ := hown3.rd.open
  have HO := Lib.hid hown3
  clear hown2 hg2 hown3
  go_wp2_with fail
  go_ret
  refine ⟨w2.heap.size, rfl, HK2.out.size, ⟨_, heap_alloc_new _ _, ?_, Nat.zero_le _⟩, HK2.out.alloc _⟩
  exact HO.out.rd.keep0 ((Kp.refl 0 0 w2).alloc _)

end Go.Proofs.Ytgokhagbknlfaaa
