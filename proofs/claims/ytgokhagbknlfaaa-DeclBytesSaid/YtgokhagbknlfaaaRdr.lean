/-
  The document's reader at a state of the plain reading.
-/
import Derived.Test.YtgokhagbknlfaaaRep
import Derived.Test.YtgokhagbknlfaaaDl
import Derived.Test.YtgokhagbknlfaaaRef4I
namespace Go.Proofs.Ytgokhagbknlfaaa
open Go.RowKit
set_option maxRecDepth 100000

/-- The document's reader, at a state of the plain reading. -/
def RS (p lo : Nat) (w : World) (L : List Int) (s : Ev.St) : Prop := ∃ a, L.drop a = s.1 ∧ RefR p lo w L a s.2

theorem RS.keep {p lo lo' hi' : Nat} {w w' : World} {L : List Int} {s : Ev.St} (h : RS p lo w L s) (hk : Kp lo' hi' w w') (hd : ∀ b, lo ≤ b → b ≤ p → b < lo' ∨ hi' ≤ b) (hlp : lo ≤ p) : RS p lo w' L s := by
  obtain ⟨a, h1, h2⟩ := h
  exact ⟨a, h1, h2.keep hk hd hlp⟩
theorem RS.keep0 {p lo : Nat} {w w' : World} {L : List Int} {s : Ev.St} (h : RS p lo w L s) (hk : Kp 0 0 w w') (hlp : lo ≤ p) : RS p lo w' L s := h.keep hk (fun _ _ _ => .inr (Nat.zero_le _)) hlp
theorem RS.lt {p lo : Nat} {w : World} {L : List Int} {s : Ev.St} (h : RS p lo w L s) : p < w.heap.size := by
  obtain ⟨a, _, h2⟩ := h
  exact h2.lt

theorem rs_int {p lo : Nat} (L : List Int) (s : Ev.St) (w : World) (h : RS p lo w L s) (hL : L.length ≤ 1000000) (hb : ∀ y ∈ L, 0 ≤ y ∧ y < 256) :
    Calls Try.prog 36 #[.pointer (some ⟨p, 0, none⟩)] w fun e w' => e = .returned (.int .i64 (Ev.i1 s).1) ∧ RS p lo w' L (Ev.i1 s).2 ∧ Kp p (p + 1) w w' := by
  obtain ⟨a, h1, h2⟩ := h
  have := refRInt_any L a s.2 w h2 (by omega) hb
  rw [h1] at this
  exact this

theorem rs_cnt {p lo : Nat} (m : Int) (L : List Int) (s : Ev.St) (w : World) (h : RS p lo w L s) (hL : L.length ≤ 1000000) (hb : ∀ y ∈ L, 0 ≤ y ∧ y < 256) :
    Calls Try.prog 34 #[.pointer (some ⟨p, 0, none⟩), .int .i64 m] w fun e w' => e = .returned (.int .i64 (Dl.cn m s).1) ∧ RS p lo w' L (Dl.cn m s).2 ∧ Kp p (p + 1) w w' := by
  obtain ⟨a, h1, h2⟩ := h
  have := refRCnt_any m L a s.2 w h2 (by omega) hb
  rw [h1] at this
  exact this

theorem rs_done {p lo : Nat} (L : List Int) (s : Ev.St) (w : World) (h : RS p lo w L s) :
    Calls Try.prog 37 #[.pointer (some ⟨p, 0, none⟩)] w fun e w' => e = .returned (.int .i64 (Pk.dne s.1 s.2)) ∧ Kp 0 0 w w' := by
  obtain ⟨a, h1, h2⟩ := h
  have := refDone_any L a s.2 w h2
  rw [h1] at this
  exact this

theorem RefR.rs {p lo : Nat} {w : World} {L : List Int} (h : RefR p lo w L 0 0) : RS p lo w L (L, 0) := ⟨0, rfl, h⟩

/-- A block of four cells, behind a call that turns block p alone, and a store into it. -/
theorem blk_step {p q : Nat} {w w' : World} {c : Array Value} {e : TypeId} (h : w.heap[q]? = some (.cells c e (0, 0))) (hk : Kp p (p + 1) w w') (hpq : p < q) : w'.heap[q]? = some (.cells c e (0, 0)) := hk.heap h (.inr (by omega))

end Go.Proofs.Ytgokhagbknlfaaa
