/- Arrays of four references compared, by the operation itself. -/
import Derived.Test.YtfnhkapbfgofkaaWva
namespace Go.Proofs.Ytfnhkapbfgofkaa
open Go.RowKit
attribute [local go_sem] eqArr
theorem eqArr' (W : World) (a b c d e f g h a' b' c' d' e' f' g' h' : Int) :
    (Op.equalIn 10000 51 (.agg #[.int .i64 a, .int .u32 b, .int .i64 c, .int .u32 d, .int .i64 e, .int .u32 f, .int .i64 g, .int .u32 h]) (.agg #[.int .i64 a', .int .u32 b', .int .i64 c', .int .u32 d', .int .i64 e', .int .u32 f', .int .i64 g', .int .u32 h'])).run Try.prog W
      = .ok ((a == a' && b == b') && (c == c' && d == d') && (e == e' && f == f') && (g == g' && h == h')) W := by
  have u25 := Try.underlying51
  rw [show (10000 : Nat) = 9999 + 1 from rfl, Op.equalIn]
  simp only [Sem.run_bind, run_underlying u25, Result.andThen_ok]
  simp [go_sem, List.range', List.forIn_cons]
  repeat' split
  all_goals simp_all
end Go.Proofs.Ytfnhkapbfgofkaa
