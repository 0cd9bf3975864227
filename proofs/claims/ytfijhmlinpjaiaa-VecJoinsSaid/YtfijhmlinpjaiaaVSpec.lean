/-
  What the laws ask of package vec's Get, Cmp, Join and Sum; and, where they keep it, that the chapter's vectors come out right.
-/
import Derived.Test.YtfijhmlinpjaiaaVRef
namespace Go.Proofs.Ytfijhmlinpjaiaa
open Go.RowKit

/-- Get keeps the document. -/
def GetOk : Prop := ∀ (l1 h1 : Nat) (l : List Int) (o : Int) (w : World) (v : Value), RdI .i64 l1 h1 w v l → V.I64 l → (-9223372036854775808 ≤ o ∧ o ≤ 9223372036854775807) → l.length ≤ 1000000 →
  Calls Try.prog 18 #[v, .int .i64 o] w fun e w' => e = .returned (.int .i64 (V.get l o)) ∧ Qt w w'

/-- Cmp keeps the document. -/
def CmpOk : Prop := ∀ (l1 h1 l2 h2 : Nat) (a b : List Int) (w : World) (va vb : Value), RdI .i64 l1 h1 w va a → RdI .i64 l2 h2 w vb b → V.I64 a → V.I64 b → a.length ≤ 1000000 → b.length ≤ 1000000 →
  Calls Try.prog 16 #[va, vb] w fun e w' => e = .returned (.int .i64 (V.cmp a b)) ∧ Qt w w'

/-- Join keeps the document. -/
def JoinOk : Prop := ∀ (l1 h1 l2 h2 : Nat) (a b : List Int) (w : World) (va vb : Value), RdI .i64 l1 h1 w va a → RdI .i64 l2 h2 w vb b → V.I64 a → V.I64 b → a.length ≤ 1000000 → b.length ≤ 1000000 →
  Calls Try.prog 11 #[va, vb] w fun e w' => ∃ v, e = .returned v ∧ OwnI .i64 3 w.heap.size w'.heap.size w' v (V.join a b) ∧ Kp 0 0 w w'

/-- Sum keeps the document. -/
def SumOk : Prop := ∀ (l1 h1 : Nat) (l : List Int) (w : World) (v : Value), RdI .i64 l1 h1 w v l → V.I64 l → l.length ≤ 1000000 →
  Calls Try.prog 12 #[v] w fun e w' => e = .returned (.tuple #[.int .i64 (V.sum l).1, .bool (V.sum l).2]) ∧ Qt w w'

end Go.Proofs.Ytfijhmlinpjaiaa
