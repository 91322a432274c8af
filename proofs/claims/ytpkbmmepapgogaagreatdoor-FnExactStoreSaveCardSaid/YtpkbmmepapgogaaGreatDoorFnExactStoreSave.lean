/-
  Proved here: for every input the law laws.FnExactStoreSave returns true, and each argument reads afterwards as it read before; the listed package-level variables begin as the program's own text lays them (the card ties them). No other condition.
-/
import Derived.Test.YtpkbmmepapgogaaGreatDoorRows
import Derived.Test.YtpkbmmepapgogaaGreatDoorTie
import Derived.Test.YtpkbmmepapgogaaGreatDoorCards
import Derived.WalkKit
import Derived.Test.YtpkbmmepapgogaaGreatDoorFacts
import Derived.Test.YtpkbmmepapgogaaGreatDoorExStoreS
import Derived.Test.YtpkbmmepapgogaaGreatDoorLaidForm
import Derived.ProofKit
import Derived.OpenShut
import Derived.ShutString
import Derived.ChangeOld
import Derived.Below
import Derived.LaidMore
import Derived.Stop.Joined
import Derived.SevenTiedAt
import Derived.ChangeVars
import Derived.Lay
namespace Go.Proofs.YtpkbmmepapgogaaGreatDoor.fnExactStoreSave
open Go Go.ChangeShapes Go.WideShapes Go.ChangeAt Go.RowKit
open Go.ChangeMaps (open_string shut_string)
set_option linter.unusedVariables false

theorem own : ownKnob Tryz.prog.godebug = none := by kernel_rfl
theorem laidOut : laidOutB Tryz.prog = true := facLaid
theorem plainL : (Rows.fnExactStoreSaveRow.laid.all fun x => x.2.handleName?.isNone) = true := by kernel_rfl
set_option maxRecDepth 100000 in
theorem lifted (os : Os) (started : os.Started) (H : Type) (enc : TypeId × Value → H) :
    ReturnsInHanded {} Tryz.checked os 5 .any (fun w args => (Rows.fnExactStoreSaveSpec.pre enc Tryz.prog Tryz.f5 [] false w args ∧ laidMetH Tryz.prog Rows.fnExactStoreSaveRow.laid w) ∧ sizedMet enc Tryz.prog Tryz.f5 (OpenSpec.ofChange Rows.fnExactStoreSaveSpec) false w args) (Rows.fnExactStoreSaveSpec.post enc Tryz.prog Tryz.f5 false true false false) := by
  refine returnsInHanded_of_change_laid (C := Tryz.checked) (X := fun w _ => laidMetH Tryz.prog Rows.fnExactStoreSaveRow.laid w) (fun _ _ _ hh h => h.of_heap hh) own started (by kernel_rfl) Tryz.func5
    (ChangeSpec.witness_shaped (enc := enc) (C := Tryz.checked) (os := os) (X := fun w _ => laidMetH Tryz.prog Rows.fnExactStoreSaveRow.laid w) false (World.laidAll Tryz.prog os Rows.fnExactStoreSaveRow.laid) #[.agg #[.string ⟨#[]⟩, .string ⟨#[]⟩, .int .i64 0]] 8 (World.laidAll_os _ _ _) (World.shaped_of_ZipB (by kernel_rfl) (by kernel_rfl)) (by kernel_rfl) (by kernel_rfl) (by kernel_rfl) (by rw [MakeChecks.laidMetH_plain _ _ _ plainL]; exact laidMet_laidAll _ (by kernel_rfl) (by kernel_rfl))) ?_
  intro W base args ds gs before hval0 hW hL hsh
  have hval : ∀ (j : Nat) t v, Tryz.f5.params[j]? = some t → args[j]? = some v → Value.okWide Tryz.prog W .any base t v := hval0
  have hW' := hW
  obtain ⟨p, q, hA0, hV, rfl, hfz, hnd⟩ := hW
  have hA : DataW.TrodAll enc Tryz.prog W 0 (fun _ => true) true Tryz.f5.params.toList args.toList ds p := hA0
  rw [Tryz.params5] at hA hval
  obtain ⟨v0, vs0, d0, ds0, p0, q0, hargs, rfl, rfl, h0, r0⟩ := trodAll_cons hA
  obtain ⟨rfl, rfl, rfl⟩ := trodAll_nil r0
  obtain rfl : args = #[v0] := by cases args; simp_all
  have hV0 : DataW.TrodVars enc Tryz.prog W (fun _ => true) ["loop.example/urnsandballs/impl.deedForms"] gs q := hV
  obtain ⟨_, _, _, _, dg, _, rfl, _, _, _, _, _⟩ := trodVars_one hV0
  have k0 := h0
  have lt0 : ∀ x ∈ p0, x.block < W.heap.size := by obtain ⟨m, hm⟩ := k0; exact DataW.trod_lt m _ _ _ hm
  obtain ⟨x0, y0, z0, _, _, _, n0, rfl, _, _, e0a, e0b, e0c⟩ := Go.Joins.open_agg3 Tryz.underlying23 (by kernel_rfl) (by kernel_rfl) (hval 0 23 v0 rfl rfl) h0
  obtain ⟨i0a, g0a, _, wf0a⟩ := DataW.trod_string Tryz.underlying9 e0a
  obtain ⟨i0b, g0b, _, wf0b⟩ := DataW.trod_string Tryz.underlying9 e0b
  obtain ⟨i0c, g0c, _, wf0c⟩ := DataW.trod_int Tryz.underlying3 e0c
  injection g0a with g0a; injection g0b with g0b; injection g0c with g0c
  subst g0a; subst g0b; subst g0c
  clear hA0 hval0
  have hN := laidN_of hL plainL hsh 2 5 4 rfl rfl rfl
  have hD := laidD_of hL plainL 6 rfl
  refine (exStoreSave ⟨i0a, i0b, i0c⟩ W wf0a wf0b hN hD).mono fun e W' ⟨he, bel⟩ => ?_
  subst he
  obtain ⟨pv, hv2⟩ := vars_stay hV0 bel laidOut gForms gFormsT (by kernel_rfl) (of_decide_eq_true (by kernel_rfl))
  exact ⟨_, rfl, _, _, _, [], _, pv, hW', trodAll_mk1 (shut_bool Tryz.underlying4 _), (trodAll_cons_mk (Below.trod laidOut (by kernel_rfl) (of_decide_eq_true (by kernel_rfl)) k0 bel lt0) trodAll_mk0), hv2, bel.frame _, fun h => by cases h⟩
theorem closedFact : joinedFacts Tryz.prog 5 Tryz.f5 Rows.fnExactStoreSaveSpec Rows.fnExactStoreSaveRow = true :=
  ((restP Tryz.prog 5 Tryz.f5 Rows.fnExactStoreSaveSpec Rows.fnExactStoreSaveRow).2 facLaid facMaps facStops facKnobs facHeard facEnter facLifts facMake).trans (by kernel_rfl)
theorem over : Rows.fnExactStoreSaveRow.holds Tryz.pinned (OpenSpec.ofChange Rows.fnExactStoreSaveSpec) :=
  OpenClaim.holds_of_wide 5 Tryz.f5 rfl rfl rfl rfl rfl rfl rfl ⟨rfl, rfl, rfl, rfl, rfl⟩ rfl rfl rfl rfl rfl (by kernel_rfl) Tryz.func5 closedFact
    (of_decide_eq_true (by kernel_rfl)) (by unfold Func.isWrapper; first | (rw [if_pos (by decide +kernel)]; kernel_rfl) | (rw [if_neg (by decide +kernel)]; exact ⟨rfl, rfl⟩))
    (fun os started H enc _ => lifted os started H enc)
theorem proved : Rows.FnExactStoreSaveCardSaid :=
  Claim7.holds_tied_plain_at .later [] [.data, .data, .data, .data, .sentinel, .sentinel, .data, .pinned] true (true, "43d015582a147e14882d93948e2e094d7c07230da32d1de99e71296b0f24384d") true
    over (fun _ h => by cases h) (by kernel_rfl) (fun _ h => by cases h) fnExactStoreSave_row_tie rfl ⟨rfl, rfl⟩ (by kernel_rfl) rfl
    (fun f fn hf hfn => by
      obtain rfl : f = 5 := Option.some.inj ((show Tryz.prog.funcNamed "loop.example/urnsandballs/laws.FnExactStoreSave" = some 5 by kernel_rfl).symm.trans hf) |>.symm
      obtain rfl : fn = Tryz.f5 := (Option.some.inj (Tryz.func5.symm.trans hfn)).symm
      exact ⟨by kernel_rfl, fun j t ht => by
        rw [Tryz.params5] at ht
        have hm : t ∈ [23] := by simpa using Array.mem_of_getElem? ht
        have hall : ([23].all fun u => !Tryz.prog.wantsStandIn u) = true := by kernel_rfl
        exact (show Tryz.prog.wantsStandIn t = false by simpa using List.all_eq_true.1 hall t hm)⟩)
    (by kernel_rfl)
end Go.Proofs.YtpkbmmepapgogaaGreatDoor.fnExactStoreSave
