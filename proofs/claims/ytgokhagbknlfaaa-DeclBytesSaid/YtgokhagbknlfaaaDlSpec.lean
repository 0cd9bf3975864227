/-
  What the laws ask of package decl's Put and Get; and, where they keep it, that the chapter's type with a counter comes out right.
-/
import Derived.Test.YtgokhagbknlfaaaDlLong
import Derived.Test.YtgokhagbknlfaaaKSame
import Derived.Test.YtgokhagbknlfaaaScSame
import Derived.Deep.Cut
namespace Go.Proofs.Ytgokhagbknlfaaa
open Go.RowKit

/-- Put keeps the document. -/
def DPutOk (P : World → Prop) : Prop := ∀ (S : Nat → Prop) (d : Dc) (w : World) (tv pv : Value), RdD w S tv pv d → Sc.Fits d → d.ts.length ≤ 40 → d.ps.length ≤ 40 → (∀ t ∈ d.ts, t.length ≤ 40 ∧ ∀ f ∈ t, f.ms.length ≤ 40) → P w →
  Calls Try.prog 10 #[.agg #[tv, pv]] w fun r w' => ∃ v, r = .returned (.tuple #[v, .int .i64 (Dl.put d).2]) ∧ OwnI .u8 5 w.heap.size w'.heap.size w' v (Dl.put d).1 ∧ Kp 0 0 w w'

/-- Get keeps the document. -/
def DGetOk (P : World → Prop) : Prop := ∀ (lo hi : Nat) (L : List Int) (w : World) (v : Value), RdI .u8 lo hi w v L → (∀ y ∈ L, 0 ≤ y ∧ y < 256) → L.length ≤ 100000 → P w →
  Calls Try.prog 14 #[v] w fun r w' => ∃ tv pv, r = .returned (.tuple #[.agg #[tv, pv], .int .i64 (Dl.get L).2]) ∧ RdD w' (Iv w.heap.size w'.heap.size) tv pv (Dl.get L).1 ∧ Kp 0 0 w w'

def DKeeps (P : World → Prop) : Prop := ∀ w w', P w → Kp 0 0 w w' → P w'

def Dl.kn : Dc := ⟨[[⟨1, 1, true, []⟩]], []⟩
theorem Dl.kn_put : Dl.put Dl.kn = ([1, 1, 1, 1, 1, 1, 1, 1, 1, 1, 0, 0], 0) := by decide
theorem Dl.kn_ok : Dl.OkD Dl.kn := by
  refine ⟨⟨by decide, fun t ht => ?_⟩, by decide, fun p hp => by cases hp⟩
  simp [Dl.kn] at ht
  subst ht
  refine ⟨by decide, fun f hf => ?_⟩
  simp at hf
  subst hf
  exact ⟨⟨⟨by decide, by decide⟩, ⟨by decide, by decide⟩, fun m hm => by cases hm⟩, by decide⟩
theorem Dl.kn_get : Dl.get [1, 1, 1, 1, 1, 1, 1, 1, 1, 1, 0, 0] = (Dl.kn, 0) := by
  have h : (Dl.put Dl.kn).1 = Ev.encs (Dl.nums Dl.kn) := by unfold Dl.put; rw [if_neg (by decide)]
  rw [Dl.kn_put] at h
  dsimp only at h
  rw [h]
  exact Dl.get_put Dl.kn_ok

end Go.Proofs.Ytgokhagbknlfaaa
