/-
  From what a row lists of package-level variables to the words of the walks; the wrap that hands on both that and the world's shape.
-/
import Derived.Test.YtoafpokcbbncfaaDoorZla
import Derived.Stop.LaidErr
import Derived.Lib.LaidTab
import Derived.Lib.SmallJoins
import Derived.HandedShaped
import Derived.Shelf.Vars
import Derived.MakeChecks
import Derived.ChangeVars
import Derived.Carry
namespace Go.Proofs.YtoafpokcbbncfaaDoor
open Go Go.RowKit
set_option linter.unusedVariables false

theorem laid_nth {P : Program} {W : World} {n : String} {d : DataW Unit} : ∀ {l : List (String × DataW Unit)} (i : Nat), laidMet P l W → l[i]? = some (n, d) → ∃ r, laidMet P ((n, d) :: r) W
  | [], i, _, h => by simp at h
  | x :: r, 0, hL, h => by
    simp at h
    subst h
    exact ⟨r, hL⟩
  | x :: r, i + 1, hL, h => laid_nth i hL.tail (by simpa using h)
theorem gSyn : Tryd.prog.globalNamed "strconv.ErrSyntax" = some 3 := by kernel_rfl
theorem gRng : Tryd.prog.globalNamed "strconv.ErrRange" = some 4 := by kernel_rfl
theorem gTab : Tryd.prog.globalNamed "internal/strconv.uint64pow10" = some 2 := by kernel_rfl
theorem laid_tab {W : World} {r : List (String × DataW Unit)} (h : laidMet Tryd.prog (("internal/strconv.uint64pow10", Lib.tabData .u64 Lib.pow10Tab) :: r) W) : Lib.TabBelow Tryd.prog W.heap.size W "internal/strconv.uint64pow10" .u64 Lib.pow10Tab :=
  Lib.tabBelow_of_tabIs (Lib.tabIs_of_head gTab (t := 166) (by kernel_rfl) Tryd.underlying166 Tryd.underlying151 (by kernel_rfl) (by kernel_rfl) h)
theorem starErr : "*" ++ "errors.errorString" = "*errors.errorString" := by decide
theorem rowErr (u : TypeId) (h : Tryd.prog.typeName? 3 u = some "*errors.errorString") : u = 178 :=
  typeName_ptr_named (nm := "errors.errorString") (by rw [starErr]; kernel_rfl) (by kernel_rfl) (by decide) u (by rw [starErr]; exact h)
theorem laid_err {W : World} {n : String} {g : Nat} {text : List UInt8} {r : List (String × DataW Unit)} (hg : Tryd.prog.globalNamed n = some g) (ht : (Tryd.prog.globals[g]?).map (·.type) = some 100) (h : laidMet Tryd.prog ((n, .iface "*errors.errorString" (.ptr (.agg [.lit (.string text)]))) :: r) W) :
    ∃ te pe, W.cell? ⟨g, 0, none⟩ = some (.iface te pe) := by
  obtain ⟨a, s, hv, _⟩ := laid_sentinel h hg ht Tryd.underlying100 rowErr Tryd.underlying178 Tryd.underlying180 rfl rfl Tryd.underlying9 (by kernel_rfl) (by kernel_rfl)
  exact ⟨_, _, by simpa using World.var?_cell hg hv 0⟩
theorem laidN_of {W : World} {l : List (String × DataW Unit)} (hL : laidMetH Tryd.prog l W) (hp : (l.all fun x => x.2.handleName?.isNone) = true) (hs : W.ShapedOpen Tryd.prog) (i j k : Nat) {x y : List UInt8}
    (hi : l[i]? = some ("internal/strconv.uint64pow10", Lib.tabData .u64 Lib.pow10Tab))
    (hj : l[j]? = some ("strconv.ErrSyntax", .iface "*errors.errorString" (.ptr (.agg [.lit (.string x)]))))
    (hk : l[k]? = some ("strconv.ErrRange", .iface "*errors.errorString" (.ptr (.agg [.lit (.string y)])))) : LaidN W := by
  rw [MakeChecks.laidMetH_plain _ _ _ hp] at hL
  obtain ⟨_, h1⟩ := laid_nth i hL hi
  obtain ⟨_, h2⟩ := laid_nth j hL hj
  obtain ⟨_, h3⟩ := laid_nth k hL hk
  exact ⟨cell_of_shapedOpen_int hs (by decide) (zero := #[.int .i64 0]) (t := 3) (by kernel_rfl) rfl (by kernel_rfl) (by kernel_rfl) Tryd.underlying3, laid_err gSyn (by kernel_rfl) h2, laid_err gRng (by kernel_rfl) h3, laid_tab h1⟩

theorem laidT_of {W : World} {l : List (String × DataW Unit)} (hL : laidMetH Tryd.prog l W) (hp : (l.all fun x => x.2.handleName?.isNone) = true) (i : Nat) (hi : l[i]? = some ("internal/strconv.uint64pow10", Lib.tabData .u64 Lib.pow10Tab)) : LaidT W := by
  rw [MakeChecks.laidMetH_plain _ _ _ hp] at hL
  obtain ⟨_, h1⟩ := laid_nth i hL hi
  exact ⟨laid_tab h1⟩
/-- A listed variable reads behind the call as it read before. -/
theorem vars_stay {H : Type} {enc : TypeId × Value → H} {P : Program} {n : String} {gs : List (DataW H)} {q : List MemPlace} {W W' : World} {g0 : Nat} {t0 : TypeId} (hV : DataW.TrodVars enc P W (fun _ => true) [n] gs q) (hb : Below W.heap.size W W') (hl : laidOutB P = true)
    (hg0 : P.globalNamed n = some g0) (ht0 : (P.globals[g0]?).map (·.type) = some t0) (hr : P.readableRec t0 = true) (hrow : t0 < P.types.size) : ∃ pv, DataW.TrodVars enc P W' (fun b => decide (b < W.heap.size)) [n] gs pv := by
  obtain ⟨g, t, cs, fuel, d, p, rfl, hg, ht, hv, hd, _⟩ := ChangeShapes.trodVars_one hV
  obtain rfl := Option.some.inj (hg0.symm.trans hg)
  obtain rfl := Option.some.inj (ht0.symm.trans ht)
  have hT : DataW.Trod enc P W 0 (fun _ => true) true t0 (.agg cs) d p := ⟨fuel, by simpa [Value.cells] using hd⟩
  obtain ⟨f2, h2⟩ := Below.trod hl hr hrow hT hb (DataW.trod_lt fuel _ _ _ hd)
  exact ⟨_, ChangeShapes.trodVars_mk1 hg ht (Go.Joins.var_stays hg hv hb (Nat.le_refl _)) (by simpa [Value.cells] using h2)⟩
theorem returnsInHanded_of_change_laid {H : Type} {enc : TypeId × Value → H} {a : Assume} {C : Checked} {os : Os} {f : FuncId} {fn : Func} {s : ChangeSpec} {conds : List PathCond} {apart fresh handsOn again : Bool} {X : World → Array Value → Prop}
    (hX : ∀ (w w' : World) (args : Array Value), w.heap = w'.heap → X w args → X w' args)
    (own : ownKnob C.prog.godebug = none) (started : os.Started) (noInit : C.prog.inits.idxOf? f = none) (hfn : C.prog.funcs[f]? = some fn)
    (witness : ∃ (w : World) (tape : Tape) (i : Input), w.os = os ∧ (w.forCall tape i).Shaped C.prog ∧ i.vars = [] ∧ Input.okWide C.prog (w.forCall tape i) .any w.heap.size f i ∧
      ((s.pre enc C.prog fn conds apart (w.forCall tape i).memory i.args ∧ X (w.forCall tape i).memory i.args) ∧ sizedMet enc C.prog fn (OpenSpec.ofChange s) apart (w.forCall tape i).memory i.args) ∧ a.holds C.prog (lone (Frame.enter C.prog f i.args .normal) [] (w.forCall tape i)))
    (contract : ∀ (W : World) (base : Nat) (args : Array Value) (ds gs : List (DataW H)) (before : List MemPlace),
      (∀ (j : Nat) t v, fn.params[j]? = some t → args[j]? = some v → Value.okWide C.prog W .any base t v) →
      DataW.Whole enc C.prog fn.params.toList s.vars apart W args.toList ds gs before →
      X W args → W.ShapedOpen C.prog →
      Calls C.prog f args W fun e W' => ∃ v, e = .returned v ∧ s.post enc C.prog fn apart fresh handsOn again W args v W') :
    ReturnsInHanded a C os f .any (fun w args => (s.pre enc C.prog fn conds apart w args ∧ X w args) ∧ sizedMet enc C.prog fn (OpenSpec.ofChange s) apart w args) (s.post enc C.prog fn apart fresh handsOn again) := by
  refine returnsInHanded_of_calls own started noInit witness ?_
  intro w tape i _ hsh _ hok hpre hholds
  obtain ⟨_, _, _, fn', hfn', _, _, _, _, hval⟩ := hok
  have e : fn' = fn := Option.some.inj (hfn'.symm.trans hfn)
  subst e
  obtain ⟨⟨⟨ds, gs, before, hw, hc⟩, hx⟩, hz⟩ := hpre
  have hw' := DataW.Whole.of_heap (w' := w.forCall tape i) (by rfl) hw
  refine (contract (w.forCall tape i) w.heap.size i.args ds gs before hval hw' (hX _ _ _ (by rfl) hx) hsh).mono fun e W' ⟨v, he, hp⟩ => ?_
  subst he
  exact ChangeSpec.post_blind hp
end Go.Proofs.YtoafpokcbbncfaaDoor
