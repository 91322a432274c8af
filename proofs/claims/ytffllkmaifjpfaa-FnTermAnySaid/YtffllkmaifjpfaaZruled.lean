/-
  The drawn rules: spec.l20Rule for every number of colours, spec.l20Ruled, DrawStartOk.
-/
import Derived.Test.YtffllkmaifjpfaaDrawRule
namespace Go.Proofs.Ytffllkmaifjpfaa
open Go.RowKit

theorem results_tmp4 {fn : Func} {t u v x : Tmp} (h : fn.results = #[.tmp t, .tmp u, .tmp v, .tmp x]) (tmps : Array Value) (P : Program) (w : World) :
    (results fn tmps).run P w = .ok (.tuple #[tmps.getD t undef, tmps.getD u undef, tmps.getD v undef, tmps.getD x undef]) w := by
  simp [results, h]

theorem rule_c (g m : Nat) (cl q : Int) (w : World) (h : Rd w g m) (hm : m ≤ 10000) (hq : 1 ≤ q) (hq2 : q ≤ 1000000) :
    Calls Try.prog 54 #[.pointer (some ⟨g, 0, none⟩), .int .i64 cl, .int .i64 q] w fun e w' => ∃ A n c rs, e = .returned (.slice A n c) ∧ MatL w' w.heap.size A n c rs ∧ n ≤ 3 ∧ Rd w' g (m + 40) ∧ w.grownBy w' (some g) := by
  rcases (show cl < 1 ∨ (1 ≤ cl ∧ cl ≤ 3) ∨ 3 < cl by omega) with hcl | ⟨hcl, hcl2⟩ | hcl
  · exact rule_lo g m cl q w h hm hq hq2 hcl
  · obtain ⟨C, rfl⟩ : ∃ C : Nat, cl = (C : Int) := ⟨cl.toNat, by omega⟩
    exact rule_mid g m C q w h hm hq hq2 (by omega) (by omega)
  · exact rule_hi g m cl q w h hm hq hq2 hcl

end Go.Proofs.Ytffllkmaifjpfaa
