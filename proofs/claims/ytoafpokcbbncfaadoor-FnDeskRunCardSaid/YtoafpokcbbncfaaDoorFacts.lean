/-
  The facts on the whole program that each claim's frame asks, proved once for the seat (written by wip/facts.py).
-/
import Derived.Test.YtoafpokcbbncfaaDoorRows
import Derived.JoinedOf
import Derived.KernelRfl
namespace Go.Proofs.YtoafpokcbbncfaaDoor
open Go

theorem toList_of {s : String} {l : List Char} (h : s = String.ofList l) : s.toList = l := by rw [h, String.toList_ofList]
theorem facOrder : Tryd.prog.initOrder = "harness b69a5bf9933d18a54ffde62e76d599603486dc79ad706f236f8f5f448a89b9f2 cut at loop.example/urnsandballs/laws.FnExactDeskDo loop.example/urnsandballs/laws.FnExactDeskRun loop.example/urnsandballs/laws.FnDeskDo loop.example/urnsandballs/laws.FnDeskRun loop.example/urnsandballs/laws.FnJournalText" := by kernel_rfl
def enterP (P : Program) (l : List Char) : { b : Bool // P.initOrder.toList = l → P.mayEnter = b } := by
  unfold Program.mayEnter
  exact ⟨_, fun e => by rw [e]⟩
def liftsP (P : Program) (l : List Char) : { b : Bool // P.initOrder.toList = l → P.liftsFinal = b } := by
  unfold Program.liftsFinal Program.headLifts
  exact ⟨_, fun e => by rw [e]⟩
def makeP (P : Program) (l : List Char) : { b : Option Make // P.initOrder.toList = l → P.make = b } := by
  unfold Program.make
  exact ⟨_, fun e => by rw [e]⟩
def mainP (P : Program) (l : List Char) : { b : Option (Bool × List Char) // P.initOrder.toList = l → P.mainIs = b } := by
  unfold Program.mainIs
  exact ⟨_, fun e => by rw [e]⟩
theorem facLaid : laidOutB Tryd.prog = true := by kernel_rfl
theorem facMaps : mapsRowed Tryd.prog = true := by kernel_rfl
theorem facStops : (Tryd.prog.stops == []) = true := by kernel_rfl
theorem facKnobs : (Tryd.prog.stopKnobs == []) = true := by kernel_rfl
theorem facHeard : Tryd.prog.stopsHeard = true := by kernel_rfl
set_option maxRecDepth 100000 in
theorem facEnter : Tryd.prog.mayEnter = true := by
  have e := (congrArg String.toList facOrder).trans (toList_of rfl)
  exact ((enterP Tryd.prog _).2 e).trans (by kernel_rfl)
set_option maxRecDepth 100000 in
theorem facLifts0 : Tryd.prog.liftsFinal = false := by
  have e := (congrArg String.toList facOrder).trans (toList_of rfl)
  exact ((liftsP Tryd.prog _).2 e).trans (by kernel_rfl)
set_option maxRecDepth 100000 in
theorem facMake0 : Tryd.prog.make = some Make.cut := by
  have e := (congrArg String.toList facOrder).trans (toList_of rfl)
  exact ((makeP Tryd.prog _).2 e).trans (by kernel_rfl)
theorem facLifts : (false == Tryd.prog.liftsFinal) = true := by rw [facLifts0]; rfl
theorem facMake : (Tryd.prog.make == some Make.cut) = true := by rw [facMake0]; rfl

def restP (P : Program) (f : FuncId) (fn : Func) (s : ChangeSpec) (c : OpenClaim) : { b : Bool // laidOutB P = true → mapsRowed P = true → (P.stops == []) = true → (P.stopKnobs == []) = true → P.stopsHeard = true → P.mayEnter = true → (c.lifted == P.liftsFinal) = true → (P.make == some c.make) = true →
    joinedFacts P f fn s c = b } := by
  unfold joinedFacts
  exact ⟨_, fun e1 e2 e3 e4 e5 e6 e7 e8 => by rw [e1, e2, e3, e4, e5, e6, e7, e8]⟩
end Go.Proofs.YtoafpokcbbncfaaDoor
