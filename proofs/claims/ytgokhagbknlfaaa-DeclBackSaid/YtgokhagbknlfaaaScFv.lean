/-
  A field as a value; what is known of a move's type.
-/
import Derived.Test.YtgokhagbknlfaaaProg
import Derived.Test.YtgokhagbknlfaaaSc
import Derived.WalkKit
import Derived.Handy
namespace Go.Proofs.Ytgokhagbknlfaaa
open Go.RowKit

theorem info_mv : (Try.prog.info? 73).map (fun i => (i.zero, i.size, i.bytes)) = some (some (.agg #[.int .i64 0, .int .i64 0, .int .i64 0, .int .i64 0]), 4, 32) := by kernel_rfl

/-- What Field answers. -/
def fieldV (x : Fl) (mv : Value) : Value := .agg #[.int .i64 x.k, .int .i64 x.p, .bool x.b, mv]

end Go.Proofs.Ytgokhagbknlfaaa
