/-
  The law RegisterMaps (7), walked: its maps are built by Put, asked by Get, and what may not be is refused by every call.
  register: the document's Fits (39), the law's texts (82).
  tagset and register: may these elements be (the document's May, 11).
  tagset and register: the document's May says what Of asks.
  Elements put in one by one, by rising stamps: the plain theory.
  tagset, register and queue: the document's Sorted (11): elements put in one by one.
  register: the document's Behind (44), May (38), Sorted (40).
  stamp: a stamp's key is a key, and the stamp of it is that stamp.
  register and queue: what a map of elements tells, against the document's lists.
  register: a register tells just these elements (stands 41).
-/
import Derived.Test.YtkkpdgfllnbigaaGreatMg15
import Derived.Test.YtkkpdgfllnbigaaGreatMg14
import Derived.Test.YtkkpdgfllnbigaaGreatMg11
import Derived.Test.YtkkpdgfllnbigaaGreatMg7
import Derived.Test.YtkkpdgfllnbigaaGreatMg8
import Derived.Shelf.SlSortCmp.QuietGrown
import Derived.Test.YtkkpdgfllnbigaaGreatMg13
import Derived.Test.YtkkpdgfllnbigaaGreatMg10
namespace Go.Proofs.YtkkpdgfllnbigaaGreat
open Go.RowKit Go.Shelf
set_option linter.unusedSimpArgs false
attribute [local go_sem] Oper.semAt_some

/-- A slice of pairs of strings. -/
def Rp (w : World) (ao : Option Addr) (l : List Kv) : Prop := ∀ k x, l[k]? = some x → ∃ b off, ao = some ⟨b, off, none⟩ ∧ w.cell? ⟨b, off + k * 2, none⟩ = some (.string x.1) ∧ w.cell? ⟨b, off + k * 2 + 1, none⟩ = some (.string x.2)
theorem Rp.below {w w' : World} {ao : Option Addr} {l : List Kv} (h : Rp w ao l) (hb : Below w.heap.size w w') : Rp w' ao l := fun k x hx => by
  obtain ⟨b, off, e, h1, h2⟩ := h k x hx
  exact ⟨b, off, e, cell_stays h1 hb, cell_stays h2 hb⟩
theorem Ot.form {w : World} {B : Nat} {v : Value} {L : List ByteArray} (h : Ot w B v L) : ∃ ao c, v = .slice ao L.length c := by
  rcases h with ⟨h1, h2⟩
  rcases h2 with ⟨e, e2⟩ | ⟨g, cap, cur, e, -⟩
  · exact ⟨none, 0, by rw [e, e2]⟩
  · exact ⟨_, _, e⟩
end Go.Proofs.YtkkpdgfllnbigaaGreat
namespace Go.Proofs.YtkkpdgfllnbigaaGreat
open Go.RowKit Go.Shelf
set_option linter.unusedSimpArgs false
attribute [local go_sem] Oper.semAt_some

end Go.Proofs.YtkkpdgfllnbigaaGreat
namespace Go.Proofs.YtkkpdgfllnbigaaGreat
open Go.RowKit Go.Shelf
set_option linter.unusedSimpArgs false
attribute [local go_sem] Oper.semAt_some

end Go.Proofs.YtkkpdgfllnbigaaGreat
namespace Go.Proofs.YtkkpdgfllnbigaaGreat
open Go.RowKit Go.Shelf

end Go.Proofs.YtkkpdgfllnbigaaGreat
namespace Go.Proofs.YtkkpdgfllnbigaaGreat
open Go.RowKit Go.Shelf

def UpS (l : List El) : Prop := l.Pairwise (fun a b => cmpT a.1 b.1 = -1)
end Go.Proofs.YtkkpdgfllnbigaaGreat
namespace Go.Proofs.YtkkpdgfllnbigaaGreat
open Go.RowKit Go.Shelf Go.Sort
set_option linter.unusedSimpArgs false
attribute [local go_sem] Oper.semAt_some

theorem one_re (W : World) (x : El) : Re (W.alloc (.cells (encE x).toArray 53)) (some ⟨W.heap.size, 0, none⟩) [x] := ⟨by simp, fun a ha j u hj => by
  cases ha
  rw [add_lit, cell_of_row _ _ (0 + j) (encE x).toArray 53 (0, 0) (heap_alloc_new W _), Nat.zero_add]
  simpa [flatE] using hj⟩
theorem exec_ld53 {ev' : Operand → Value} {p : Operand} {T : TypeId} {w : World} {b o : Nat} {g r : Int} {l : ByteArray} {n x : Int} {y : ByteArray} (hx : ev' p = .pointer (some ⟨b, o, none⟩)) (c0 : w.cell? ⟨b, o, none⟩ = some (.int .i64 g)) (c1 : w.cell? ⟨b, o + 1, none⟩ = some (.int .i64 r)) (c2 : w.cell? ⟨b, o + 2, none⟩ = some (.string l)) (c3 : w.cell? ⟨b, o + 3, none⟩ = some (.int .i64 n)) (c4 : w.cell? ⟨b, o + 4, none⟩ = some (.int .i64 x)) (c5 : w.cell? ⟨b, o + 5, none⟩ = some (.string y)) :
    (execOp ev' { dst := none, op := .load 53 p, type := T, pos := "", after := #[], guard := none }).run Tryz.prog w = .ok (.value (ev ((g, r, l, n, x), y))) w := by
  unfold execOp
  simp only [hx]
  go_simp
end Go.Proofs.YtkkpdgfllnbigaaGreat
namespace Go.Proofs.YtkkpdgfllnbigaaGreat
open Go.RowKit Go.Shelf
set_option linter.unusedSimpArgs false
attribute [local go_sem] Oper.semAt_some

end Go.Proofs.YtkkpdgfllnbigaaGreat
namespace Go.Proofs.YtkkpdgfllnbigaaGreat
open Go.RowKit Go.Shelf
set_option linter.unusedSimpArgs false

theorem U_len (l : List Int) : (U l).length = l.length := by unfold U; rw [← Lib.size_eq, strOfNums_size]
theorem size_list (s : ByteArray) : s.size = s.data.toList.length := by rw [← Lib.size_eq]
end Go.Proofs.YtkkpdgfllnbigaaGreat
namespace Go.Proofs.YtkkpdgfllnbigaaGreat
open Go.RowKit Go.Shelf

theorem okKv_el {x : Kv} (h : okKv x = true) : okV x.1 = true ∧ txtB x.2 = true := by simpa [okKv] using h
theorem may_mem {l : List Kv} (h : mayL l = true) {x : Kv} (hx : x ∈ l) : okKv x = true := List.all_eq_true.1 h x hx
end Go.Proofs.YtkkpdgfllnbigaaGreat
namespace Go.Proofs.YtkkpdgfllnbigaaGreat
open Go.RowKit Go.Shelf
set_option linter.unusedSimpArgs false
attribute [local go_sem] Oper.semAt_some

end Go.Proofs.YtkkpdgfllnbigaaGreat
