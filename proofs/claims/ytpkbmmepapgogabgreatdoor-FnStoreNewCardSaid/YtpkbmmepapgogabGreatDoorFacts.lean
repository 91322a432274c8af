/-
  The facts on the whole program that each claim's frame asks, proved once for the seat (written by wip/facts.py).
-/
import Derived.Test.YtpkbmmepapgogabGreatDoorRows
import Derived.JoinedOf
import Derived.KernelRfl
namespace Go.Proofs.YtpkbmmepapgogabGreatDoor
open Go

theorem toList_of {s : String} {l : List Char} (h : s = String.ofList l) : s.toList = l := by rw [h, String.toList_ofList]
theorem facOrder : Tryz.prog.initOrder = "harness db3a6c576dae2cbdf1aa1092c6d2c3de64d77e5f00cfe3ff12907381a3ec0260 cut at loop.example/urnsandballs/laws.FnStoreOk loop.example/urnsandballs/laws.FnStoreNew loop.example/urnsandballs/laws.FnStoreSync loop.example/urnsandballs/laws.FnStoreCrash loop.example/urnsandballs/laws.FnStoreMend loop.example/urnsandballs/laws.FnStoreNever" := by kernel_rfl
def enterP (P : Program) (l : List Char) : { b : Bool // P.initOrder.toList = l → P.mayEnter = b } := by
  unfold Program.mayEnter
  exact ⟨_, fun e => by rw [e]⟩
def liftsP (P : Program) (l : List Char) : { b : Bool // P.initOrder.toList = l → P.liftsFinal = b } := by
  unfold Program.liftsFinal Program.headLifts
  exact ⟨_, fun e => by rw [e]⟩
def makeP (P : Program) (l : List Char) : { b : Option Make // P.initOrder.toList = l → P.make = b } := by
  unfold Program.make
  exact ⟨_, fun e => by rw [e]⟩
def mainP (P : Program) (l : List Char) : { b : Option (Bool × List Char) // P.initOrder.toList = l → P.mainIs = b } := by
  unfold Program.mainIs
  exact ⟨_, fun e => by rw [e]⟩
theorem facLaid : laidOutB Tryz.prog = true := by kernel_rfl
theorem facMaps : mapsRowed Tryz.prog = true := by kernel_rfl
theorem facStops : (Tryz.prog.stops == []) = true := by kernel_rfl
theorem facKnobs : (Tryz.prog.stopKnobs == []) = true := by kernel_rfl
theorem facHeard : Tryz.prog.stopsHeard = true := by kernel_rfl
set_option maxRecDepth 100000 in
theorem facEnter : Tryz.prog.mayEnter = true := by
  have e := (congrArg String.toList facOrder).trans (toList_of rfl)
  exact ((enterP Tryz.prog _).2 e).trans (by kernel_rfl)
set_option maxRecDepth 100000 in
theorem facLifts0 : Tryz.prog.liftsFinal = false := by
  have e := (congrArg String.toList facOrder).trans (toList_of rfl)
  exact ((liftsP Tryz.prog _).2 e).trans (by kernel_rfl)
set_option maxRecDepth 100000 in
theorem facMake0 : Tryz.prog.make = some Make.cut := by
  have e := (congrArg String.toList facOrder).trans (toList_of rfl)
  exact ((makeP Tryz.prog _).2 e).trans (by kernel_rfl)
theorem facLifts : (false == Tryz.prog.liftsFinal) = true := by rw [facLifts0]; rfl
theorem facMake : (Tryz.prog.make == some Make.cut) = true := by rw [facMake0]; rfl

def restP (P : Program) (f : FuncId) (fn : Func) (s : ChangeSpec) (c : OpenClaim) : { b : Bool // laidOutB P = true → mapsRowed P = true → (P.stops == []) = true → (P.stopKnobs == []) = true → P.stopsHeard = true → P.mayEnter = true → (c.lifted == P.liftsFinal) = true → (P.make == some c.make) = true →
    joinedFacts P f fn s c = b } := by
  unfold joinedFacts
  exact ⟨_, fun e1 e2 e3 e4 e5 e6 e7 e8 => by rw [e1, e2, e3, e4, e5, e6, e7, e8]⟩
end Go.Proofs.YtpkbmmepapgogabGreatDoor
