
/-
Holds: what is asked of them, and what they leave, by classes of numbers; and which numbers are finite. Conditions: none beyond that the words fit.
-/
import Derived.Test.YtcgnmnbjgamedaaHoA
import Derived.Test.YtcgnmnbjgamedaaAtm
import Derived.Test.YtcgnmnbjgamedaaVecB
import Derived.Test.YtcgnmnbjgamedaaInn
import Derived.Test.YtcgnmnbjgamedaaHoM
namespace Go.Proofs.Ytcgnmnbjgamedaa
open Go Fk Go.RowKit
set_option linter.unusedVariables false
set_option maxRecDepth 8000

def finV (c : C3) : Bool := finC c.1 && (finC c.2.1 && finC c.2.2)
def innC (a b : C3) : Option Nat := fop .add .f32 (fop .add .f32 (fop .mul .f32 a.1 b.1) (fop .mul .f32 a.2.1 b.2.1)) (fop .mul .f32 a.2.2 b.2.2)
def scaC (a : C3) (q : Option Nat) : C3 := (fop .mul .f32 a.1 q, fop .mul .f32 a.2.1 q, fop .mul .f32 a.2.2 q)
def subC (a b : C3) : C3 := (fop .sub .f32 a.1 b.1, fop .sub .f32 a.2.1 b.2.1, fop .sub .f32 a.2.2 b.2.2)
def sumV (a b : C3) : C3 := (fop .add .f32 a.1 b.1, fop .add .f32 a.2.1 b.2.1, fop .add .f32 a.2.2 b.2.2)
def alongC (h : HC) (v : C3) : C3 := scaC h.2.2.2 (fop .quo .f32 (innC v h.2.2.2) (innC h.2.2.2 h.2.2.2))
def holdB (h : HC) : Bool := decide (0 ≤ h.1) && (finV h.2.2.1 && (finV h.2.2.2 && (decide (h.2.1 = 0) || (decide (h.2.1 = 1) || decide (h.2.1 = 2)) && sizeC (innC h.2.2.2 h.2.2.2))))
def leaveC (h : HC) (f : C3) : C3 := if h.2.1 = 1 then alongC h f else if h.2.1 = 2 then subC f (alongC h f) else (some 0, some 0, some 0)
def putC (h : HC) (p : C3) : C3 := if h.2.1 = 1 then sumV h.2.2.1 (alongC h (subC p h.2.2.1)) else if h.2.1 = 2 then subC p (alongC h (subC p h.2.2.1)) else h.2.2.1
end Go.Proofs.Ytcgnmnbjgamedaa
