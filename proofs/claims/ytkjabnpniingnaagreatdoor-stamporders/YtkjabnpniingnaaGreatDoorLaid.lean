/-
  LAID: the library's variables as its text lays them; how stamps that came in are opened.
-/
import Derived.Test.YtkjabnpniingnaaGreatDoorCards
import Derived.Test.YtkjabnpniingnaaGreatDoorTie
import Derived.Test.YtkjabnpniingnaaGreatDoorKnown
import Derived.Test.YtkjabnpniingnaaGreatDoorOpens
import Derived.Lib.LaidIn
import Derived.Lib.LaidTab
import Derived.Stop.LaidErr
import Derived.Shelf.Vars
import Derived.Deep.DeepHandedRow
import Derived.Deep.DeepWitnessRowRef
import Derived.ProofKit
import Derived.SizedLaws
namespace Go.Proofs.YtkjabnpniingnaaGreatDoor
open Go.ChangeShapes Go.WideShapes Go.ChangeAt Go.RowKit Go.Lib Go.Shelf

def dataInts : DataW Unit → List Int
  | .agg l => l.map fun | .lit (.int _ z) => z | _ => 0
  | _ => []
abbrev rangeS : ByteArray := ⟨#[118, 97, 108, 117, 101, 32, 111, 117, 116, 32, 111, 102, 32, 114, 97, 110, 103, 101]⟩
abbrev syntaxS : ByteArray := ⟨#[105, 110, 118, 97, 108, 105, 100, 32, 115, 121, 110, 116, 97, 120]⟩
abbrev laidL : List (String × DataW Unit) := [("math/bits.deBruijn32tab", Rows.laid_math_bits_deBruijn32tab), ("math/bits.deBruijn64tab", Rows.laid_math_bits_deBruijn64tab), ("internal/strconv.uint64pow10", Lib.tabData .u64 Lib.pow10Tab), ("strconv.ErrRange", .iface "*errors.errorString" (.ptr (.agg [.lit (.string [118, 97, 108, 117, 101, 32, 111, 117, 116, 32, 111, 102, 32, 114, 97, 110, 103, 101])]))), ("strconv.ErrSyntax", .iface "*errors.errorString" (.ptr (.agg [.lit (.string [105, 110, 118, 97, 108, 105, 100, 32, 115, 121, 110, 116, 97, 120])])))]
noncomputable def low0 : Nat := (World.holding Tryz.prog default ⟨#[], #[], []⟩).heap.size
/-- THE WITNESS: the settled world, the five variables holding what their initialisers lay. -/
noncomputable def laidWorld (os : Go.Os) : World :=
  let w0 := World.holding Tryz.prog os ⟨#[.cells #[.string rangeS] 204, .cells #[.string syntaxS] 204], #[], []⟩
  let put (h : Array Obj) (g : Nat) (cs : Array Value) : Array Obj := h.modify g fun
    | .cells _ t frozen => .cells cs t frozen
    | o => o
  let h1 := put w0.heap 4 ((dataInts Rows.laid_math_bits_deBruijn32tab).map fun z => Value.int .u8 z).toArray
  let h2 := put h1 5 ((dataInts Rows.laid_math_bits_deBruijn64tab).map fun z => Value.int .u8 z).toArray
  let h3 := put h2 1 (Lib.pow10Tab.map fun z => Value.int .u64 z).toArray
  let h4 := put h3 3 #[.iface 202 (.pointer (some ⟨low0, 0, none⟩))]
  let h5 := put h4 2 #[.iface 202 (.pointer (some ⟨low0 + 1, 0, none⟩))]
  { w0 with heap := h5 }
theorem laid_met (os : Go.Os) (args : Array Value) : laidMet Tryz.prog laidL ((laidWorld os).forCall (fun _ _ => 0) ⟨#[], args, []⟩).memory :=
  (LaidIn.of_run (l := laidL) [4, 5, 1, 3, 2, low0, low0 + 1] 8 (by kernel_rfl) (by kernel_rfl) (by kernel_rfl) (by kernel_rfl)).met
theorem star : "*" ++ "errors.errorString" = "*errors.errorString" := by decide
theorem row202 (u : TypeId) (h : Tryz.prog.typeName? 3 u = some "*errors.errorString") : u = 202 :=
  typeName_ptr_named (nm := "errors.errorString") (by rw [star]; kernel_rfl) (by kernel_rfl) (by decide) u (by rw [star]; exact h)
/-- What a row's list and shape give. -/
theorem env_of {W : World} (hL : laidMet Tryz.prog laidL W) (hS : W.ShapedOpen Tryz.prog) : EnvE W := by
  obtain ⟨a0, s0, hv0, -, -, -⟩ := laid_sentinel (g := 3) (ti := 145) (tp := 202) (te := 204) (ts := 9) hL.tail.tail.tail (by kernel_rfl) (by kernel_rfl) Tryz.underlying145 row202 Tryz.underlying202 Tryz.underlying204 rfl rfl Tryz.underlying9 (by kernel_rfl) (by kernel_rfl)
  obtain ⟨a1, s1, hv1, -, -, -⟩ := laid_sentinel (g := 2) (ti := 145) (tp := 202) (te := 204) (ts := 9) hL.tail.tail.tail.tail (by kernel_rfl) (by kernel_rfl) Tryz.underlying145 row202 Tryz.underlying202 Tryz.underlying204 rfl rfl Tryz.underlying9 (by kernel_rfl) (by kernel_rfl)
  refine ⟨?_, ?_, ⟨_, _, by have h0 := World.var?_cell (g := 2) (by kernel_rfl) hv1 0; simpa using h0⟩, ⟨_, _, by have h0 := World.var?_cell (g := 3) (by kernel_rfl) hv0 0; simpa using h0⟩⟩
  · exact Lib.tabIs_of_head (g := 1) (t := 190) (e := 54) (n := 20) (by kernel_rfl) (by kernel_rfl) (by kernel_rfl) (by kernel_rfl) (by kernel_rfl) (by kernel_rfl) hL.tail.tail
  · exact cell_of_shapedOpen_int (t := 3) (zero := #[.int .i64 0]) hS (of_decide_eq_true (by kernel_rfl)) (by kernel_rfl) rfl (by kernel_rfl) (by kernel_rfl) (by kernel_rfl)
theorem _root_.Go.Proofs.Tryz.cells2 : Tryz.prog.cellsOf 2 = 1 := by kernel_rfl
theorem _root_.Go.Proofs.Tryz.cells3 : Tryz.prog.cellsOf 3 = 1 := by kernel_rfl
theorem _root_.Go.Proofs.Tryz.cells9 : Tryz.prog.cellsOf 9 = 1 := by kernel_rfl
theorem _root_.Go.Proofs.Tryz.cells23 : Tryz.prog.cellsOf 23 = 2 := by kernel_rfl
theorem _root_.Go.Proofs.Tryz.cells25 : Tryz.prog.cellsOf 25 = 3 := by kernel_rfl
theorem _root_.Go.Proofs.Tryz.cells27 : Tryz.prog.cellsOf 27 = 5 := by kernel_rfl
theorem list2 {α : Type} {l : List α} (h : l.length = 2) : ∃ a b, l = [a, b] := by
  match l, h with
  | [a, b], _ => exact ⟨a, b, rfl⟩
theorem list3 {α : Type} {l : List α} (h : l.length = 3) : ∃ a b c, l = [a, b, c] := by
  match l, h with
  | [a, b, c], _ => exact ⟨a, b, c, rfl⟩
theorem list5 {α : Type} {l : List α} (h : l.length = 5) : ∃ a b c d e, l = [a, b, c, d, e] := by
  match l, h with
  | [a, b, c, d, e], _ => exact ⟨a, b, c, d, e, rfl⟩
/-- A branch's cells. -/
theorem open_branch {H : Type} {enc : TypeId × Value → H} {W : World} {fuel : Nat} {u0 u1 : Value} {x : DataW H × List MemPlace} (h : DataW.trod enc Tryz.prog W 0 (fun _ => true) true fuel 23 [u0, u1] = some x) :
    ∃ r s, u0 = .int .i64 r ∧ u1 = .string s := by
  obtain ⟨xs, n, _, hx, hl, hlen, hf⟩ := DataW.trod_struct Tryz.underlying23 h
  obtain ⟨y0, y1, rfl⟩ := list2 (show xs.length = 2 from hlen)
  have e0 : DataW.trod enc Tryz.prog W 0 (fun _ => true) true n 3 (([u0, u1].drop 0).take (Tryz.prog.cellsOf 3)) = some y0 := hf 0 _ rfl
  have e1 : DataW.trod enc Tryz.prog W 0 (fun _ => true) true n 9 (([u0, u1].drop 1).take (Tryz.prog.cellsOf 9)) = some y1 := hf 1 _ rfl
  rw [Tryz.cells3] at e0
  rw [Tryz.cells9] at e1
  simp only [List.drop_zero, List.take_succ_cons, List.take_zero, List.drop_succ_cons] at e0 e1
  obtain ⟨k, r1, _, _⟩ := DataW.trod_int Tryz.underlying3 e0
  obtain ⟨s, r2, _, _⟩ := DataW.trod_string Tryz.underlying9 e1
  simp only [List.cons.injEq, and_true] at r1 r2
  exact ⟨k, s, r1, r2⟩
/-- A name's cells. -/
theorem open_name {H : Type} {enc : TypeId × Value → H} {W : World} {fuel : Nat} {u0 u1 u2 : Value} {x : DataW H × List MemPlace} (h : DataW.trod enc Tryz.prog W 0 (fun _ => true) true fuel 25 [u0, u1, u2] = some x) :
    ∃ r s n, u0 = .int .i64 r ∧ u1 = .string s ∧ u2 = .int .i64 n := by
  obtain ⟨xs, n, _, hx, hl, hlen, hf⟩ := DataW.trod_struct Tryz.underlying25 h
  obtain ⟨y0, y1, rfl⟩ := list2 (show xs.length = 2 from hlen)
  have e0 : DataW.trod enc Tryz.prog W 0 (fun _ => true) true n 23 (([u0, u1, u2].drop 0).take (Tryz.prog.cellsOf 23)) = some y0 := hf 0 _ rfl
  have e1 : DataW.trod enc Tryz.prog W 0 (fun _ => true) true n 2 (([u0, u1, u2].drop 2).take (Tryz.prog.cellsOf 2)) = some y1 := hf 1 _ rfl
  rw [Tryz.cells23] at e0
  rw [Tryz.cells2] at e1
  simp only [List.drop_zero, List.take_succ_cons, List.take_zero, List.drop_succ_cons] at e0 e1
  obtain ⟨r, s, h0, h1⟩ := open_branch e0
  obtain ⟨k, r1, _, _⟩ := DataW.trod_int Tryz.underlying2 e1
  simp only [List.cons.injEq, and_true] at r1
  exact ⟨r, s, k, h0, h1, r1⟩
/-- A stamp's cells. -/
theorem open_cells {H : Type} {enc : TypeId × Value → H} {W : World} {fuel : Nat} {u0 u1 u2 u3 u4 : Value} {x : DataW H × List MemPlace} (h : DataW.trod enc Tryz.prog W 0 (fun _ => true) true fuel 27 [u0, u1, u2, u3, u4] = some x) :
    ∃ g r s n i, u0 = .int .i64 g ∧ u1 = .int .i64 r ∧ u2 = .string s ∧ u3 = .int .i64 n ∧ u4 = .int .i64 i := by
  obtain ⟨xs, n, _, hx, hl, hlen, hf⟩ := DataW.trod_struct Tryz.underlying27 h
  obtain ⟨y0, y1, y2, rfl⟩ := list3 (show xs.length = 3 from hlen)
  have e0 : DataW.trod enc Tryz.prog W 0 (fun _ => true) true n 2 (([u0, u1, u2, u3, u4].drop 0).take (Tryz.prog.cellsOf 2)) = some y0 := hf 0 _ rfl
  have e1 : DataW.trod enc Tryz.prog W 0 (fun _ => true) true n 25 (([u0, u1, u2, u3, u4].drop 1).take (Tryz.prog.cellsOf 25)) = some y1 := hf 1 _ rfl
  have e2 : DataW.trod enc Tryz.prog W 0 (fun _ => true) true n 3 (([u0, u1, u2, u3, u4].drop 4).take (Tryz.prog.cellsOf 3)) = some y2 := hf 2 _ rfl
  rw [Tryz.cells2] at e0
  rw [Tryz.cells25] at e1
  rw [Tryz.cells3] at e2
  simp only [List.drop_zero, List.take_succ_cons, List.take_zero, List.drop_succ_cons] at e0 e1 e2
  obtain ⟨k, r1, _, _⟩ := DataW.trod_int Tryz.underlying2 e0
  obtain ⟨r, s, m, h0, h1, h2⟩ := open_name e1
  obtain ⟨i, r3, _, _⟩ := DataW.trod_int Tryz.underlying3 e2
  simp only [List.cons.injEq, and_true] at r1 r3
  exact ⟨k, r, s, m, i, r1, h0, h1, h2, r3⟩
/-- A stamp that came in. -/
theorem open_stamp {H : Type} {enc : TypeId × Value → H} {W : World} {v : Value} {d : DataW H} {p : List MemPlace} (h : DataW.Trod enc Tryz.prog W 0 (fun _ => true) true 27 v d p) : ∃ g r s n i, v = sv g r s n i := by
  obtain ⟨fuel, hf⟩ := h
  obtain ⟨xs, n, _, hx, hl, hlen, hff⟩ := DataW.trod_struct Tryz.underlying27 hf
  rw [Tryz.cells27] at hl
  obtain ⟨cs, rfl, hcs, hcc⟩ := cells_agg hl (by decide)
  rw [hcc] at hf
  obtain ⟨u0, u1, u2, u3, u4, rfl⟩ := list5 hcs
  obtain ⟨g, r, s, n, i, rfl, rfl, rfl, rfl, rfl⟩ := open_cells hf
  exact ⟨g, r, s, n, i, rfl⟩
end Go.Proofs.YtkjabnpniingnaaGreatDoor
