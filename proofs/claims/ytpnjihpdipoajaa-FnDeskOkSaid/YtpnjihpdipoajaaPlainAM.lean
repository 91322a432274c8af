/-
  Plain functions and lemmas of chapter 14: stores. No program is named here.
-/
import Derived.Test.YtpnjihpdipoajaaPlainAL
import Derived.Test.YtpnjihpdipoajaaStr
namespace Go.Proofs.Ytpnjihpdipoajaa
open Go.RowKit
set_option linter.unusedVariables false

structure Sto where
  saved : ByteArray
  log : ByteArray
  sure : Int
def noSto : Sto := ⟨⟨#[]⟩, ⟨#[]⟩, 0⟩
def storeOk (s : Sto) : Bool := readPB (bts s.saved) && decide (s.log.size ≤ 1000) && decide (0 ≤ s.sure ∧ s.sure ≤ (s.log.size : Int))
/-- How many bytes of the log are read, and which deeds. -/
def logN (s : Sto) : Nat := (readJ (bts s.log)).2
def logD (s : Sto) : List Ded := (readJ (bts s.log)).1
def openD (s : Sto) : Dsk := runD ⟨readQ (bts s.saved), []⟩ (logD s)
def openX (s : Sto) : Dsk := if storeOk s then openD s else noDsk
def newX (p : Plc) : Sto := if placeOk p then ⟨strB (placeT p), ⟨#[]⟩, 0⟩ else noSto
def syncX (s : Sto) : Sto := if storeOk s then ⟨s.saved, s.log, (s.log.size : Int)⟩ else noSto
def crashB (s : Sto) (l : Int) : Bool := storeOk s && decide (s.sure ≤ l ∧ l ≤ (s.log.size : Int))
def crashX (s : Sto) (l : Int) : Sto := if crashB s l then ⟨s.saved, s.log.extract 0 l.toNat, s.sure⟩ else noSto
def mendX (s : Sto) : Sto := if storeOk s then ⟨s.saved, s.log.extract 0 (logN s), min s.sure (logN s : Int)⟩ else noSto
def saveX (s : Sto) : Sto := if storeOk s then ⟨strB (placeT (openD s).now), ⟨#[]⟩, 0⟩ else noSto
def actB (s : Sto) (a : Ded) : Bool := storeOk s && (decide (logN s = s.log.size) && deskB (openD s) a && deedB a && decide (s.log.size + (deedT a).length + 1 ≤ 1000))
def actX (s : Sto) (a : Ded) : Sto := if storeOk s then (if actB s a then ⟨s.saved, s.log ++ strB (deedT a) ++ ⟨#[10]⟩, s.sure⟩ else s) else noSto
theorem storeOk_yes {s : Sto} (h : storeOk s = true) : readPB (bts s.saved) = true ∧ s.log.size ≤ 1000 ∧ 0 ≤ s.sure ∧ s.sure ≤ (s.log.size : Int) := by
  unfold storeOk at h
  simp only [Bool.and_eq_true, decide_eq_true_eq] at h
  exact ⟨h.1.1, h.1.2, h.2.1, h.2.2⟩
end Go.Proofs.Ytpnjihpdipoajaa
