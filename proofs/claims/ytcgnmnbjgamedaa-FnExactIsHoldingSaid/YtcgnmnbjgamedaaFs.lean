
/-
Floats are stored like other values of one cell. Conditions: none.
-/
import Derived.Test.YtcgnmnbjgamedaaFk
namespace Go.Proofs.Ytcgnmnbjgamedaa
open Go
section
variable (P : Program) (w : World) (a : Addr) (m : Mode)
@[go_sem] theorem run_store_float (k : FloatKind) (b : Nat) : (store a (.float k b) m).run P w = stored P w a (.float k b) m := run_store P w a _ m rfl
@[go_sem] theorem alloc_drewN (n : Nat) (o : Obj) : (w.drewN n).alloc o = (w.alloc o).drewN n := rfl
@[go_sem] theorem setCell_drewN (n : Nat) (v : Value) : (w.drewN n).setCell a v = (w.setCell a v).drewN n := rfl
end
end Go.Proofs.Ytcgnmnbjgamedaa
