/-
  tagset, register and queue: the document's Sorted (11): elements put in one by one.
  register: the document's Behind (44), May (38), Sorted (40).
  stamp: a stamp's key is a key, and the stamp of it is that stamp.
  register and queue: what a map of elements tells, against the document's lists.
-/
import Derived.Test.YtkeldhohilmdcaaGreatRefOK
import Derived.Test.YtkeldhohilmdcaaGreatCmp6
import Derived.Test.YtkeldhohilmdcaaGreatEqs9
import Derived.Shelf.SlSortCmp.QuietGrown
import Derived.Test.YtkeldhohilmdcaaGreatRegM
import Derived.Test.YtkeldhohilmdcaaGreatKeyO
import Derived.Test.YtkeldhohilmdcaaGreatReg1
namespace Go.Proofs.YtkeldhohilmdcaaGreat
open Go.RowKit Go.Shelf Go.Sort
set_option linter.unusedSimpArgs false
attribute [local go_sem] Oper.semAt_some

theorem exec_ld53 {ev' : Operand → Value} {p : Operand} {T : TypeId} {w : World} {b o : Nat} {g r : Int} {l : ByteArray} {n x : Int} {y : ByteArray} (hx : ev' p = .pointer (some ⟨b, o, none⟩)) (c0 : w.cell? ⟨b, o, none⟩ = some (.int .i64 g)) (c1 : w.cell? ⟨b, o + 1, none⟩ = some (.int .i64 r)) (c2 : w.cell? ⟨b, o + 2, none⟩ = some (.string l)) (c3 : w.cell? ⟨b, o + 3, none⟩ = some (.int .i64 n)) (c4 : w.cell? ⟨b, o + 4, none⟩ = some (.int .i64 x)) (c5 : w.cell? ⟨b, o + 5, none⟩ = some (.string y)) :
    (execOp ev' { dst := none, op := .load 53 p, type := T, pos := "", after := #[], guard := none }).run Tryz.prog w = .ok (.value (ev ((g, r, l, n, x), y))) w := by
  unfold execOp
  simp only [hx]
  go_simp
end Go.Proofs.YtkeldhohilmdcaaGreat
namespace Go.Proofs.YtkeldhohilmdcaaGreat
open Go.RowKit Go.Shelf
set_option linter.unusedSimpArgs false
attribute [local go_sem] Oper.semAt_some

end Go.Proofs.YtkeldhohilmdcaaGreat
namespace Go.Proofs.YtkeldhohilmdcaaGreat
open Go.RowKit Go.Shelf
set_option linter.unusedSimpArgs false

end Go.Proofs.YtkeldhohilmdcaaGreat
namespace Go.Proofs.YtkeldhohilmdcaaGreat
open Go.RowKit Go.Shelf

end Go.Proofs.YtkeldhohilmdcaaGreat
