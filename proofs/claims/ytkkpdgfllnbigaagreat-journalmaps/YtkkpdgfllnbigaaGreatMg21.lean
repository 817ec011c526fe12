/-
  HOW ARGUMENTS ARE OPENED: slices of bytes, arrays of two and three.
  How pairs of strings come in as an argument.
  How elements and writes come in as arguments.
  The closed facts of a row, in parts: so that each is asked by itself.
-/
import Derived.Test.YtkkpdgfllnbigaaGreatMg1
import Derived.ProofKit
import Derived.OpenShut
import Derived.Lib.SmallJoins
import Derived.SizedLaws
import Derived.ShutString
import Derived.ChangeOld
import Derived.Below
import Derived.Test.YtkkpdgfllnbigaaGreatMg16
import Derived.Test.YtkkpdgfllnbigaaGreatRows
import Derived.SliceStrings
import Derived.Deep.Grids
import Derived.Test.YtkkpdgfllnbigaaGreatMg9
namespace Go.Proofs.YtkkpdgfllnbigaaGreat
open Go.ChangeShapes Go.WideShapes Go.ChangeAt Go.RowKit

theorem own : ownKnob Tryz.prog.godebug = none := by kernel_rfl
theorem laidOut : laidOutB Tryz.prog = true := by kernel_rfl
end Go.Proofs.YtkkpdgfllnbigaaGreat
namespace Go.Proofs.YtkkpdgfllnbigaaGreat
open Go.ChangeShapes Go.WideShapes Go.ChangeAt Go.RowKit Go.Shelf

set_option linter.unusedSimpArgs false
theorem cells49m : Tryz.prog.cellsOf 49 = 2 := by kernel_rfl
theorem cells9m : Tryz.prog.cellsOf 9 = 1 := by kernel_rfl
theorem list2m {α : Type} {l : List α} (h : l.length = 2) : ∃ a b, l = [a, b] := by
  match l, h with
  | [a, b], _ => exact ⟨a, b, rfl⟩
theorem add_addm (a : Addr) (k j : Nat) : (a.add k).add j = a.add (k + j) := by
  unfold Addr.add
  by_cases hk : k = 0
  · subst hk; simp
  · by_cases hj : j = 0
    · subst hj; simp [hk]
    · simp [hk, hj]; omega
/-- Pairs of strings in a slice. -/
theorem open_pairs {H : Type} {enc : TypeId × Value → H} {W : World} {fuel : Nat} {v : Value} {x : DataW H × List MemPlace} (h : DataW.trod enc Tryz.prog W 0 (fun _ => true) true fuel 47 [v] = some x) :
    ∃ ao c L, v = .slice ao (List.length L) c ∧ Rp W ao L ∧ ∀ y ∈ L, y.1.size ≤ 9223372036854775807 := by
  rcases Deep.open_slice Tryz.underlying47 h with ⟨hcs, hx⟩ | ⟨a, len, cap, m, n, D, Pl, hcs, _, hl, hm, hmm, hx, hel⟩
  · simp only [List.cons.injEq, and_true] at hcs
    subst hcs
    exact ⟨none, 0, [], rfl, fun k x hx => by simp at hx, by simp⟩
  · simp only [List.cons.injEq, and_true] at hcs
    subst hcs
    simp only [if_true] at hmm
    rw [cells49m] at hel
    obtain ⟨f, hf⟩ := Deep.choose_lt (n := len) (p := fun i (y : Kv) => W.cell? (a.add (i * 2)) = some (.string y.1) ∧ W.cell? (a.add (i * 2 + 1)) = some (.string y.2) ∧ y.1.size ≤ maxLen) (fun i hi => by
      obtain ⟨cs, h1, h2⟩ := hel i (by omega)
      obtain ⟨xs, n', _, _, hl', hl2, hea⟩ := DataW.trod_array Tryz.underlying49 h2
      rw [cells49m] at hl'
      obtain ⟨c0, c1, rfl⟩ := list2m hl'
      obtain ⟨y0, y1, rfl⟩ := list2m hl2
      have e0 := hea 0 (by omega)
      have e1 := hea 1 (by omega)
      simp only [cells9m, Nat.zero_mul, Nat.one_mul, Nat.mul_one, Nat.reduceMul, List.drop_zero, List.take_succ_cons, List.take_zero, List.drop_succ_cons, List.getElem?_cons_zero, List.getElem?_cons_succ] at e0 e1
      obtain ⟨s0, r0, _, z0⟩ := DataW.trod_string Tryz.underlying9 e0
      obtain ⟨s1, r1, _, _⟩ := DataW.trod_string Tryz.underlying9 e1
      simp only [List.cons.injEq, and_true] at r0 r1
      subst r0 r1
      obtain ⟨_, _, hc⟩ := World.cells?_some h1
      refine ⟨(s0, s1), ?_, ?_, z0⟩
      · have := hc 0 (by omega)
        rw [add_addm, Nat.add_zero] at this
        simpa using this
      · have := hc 1 (by omega)
        rw [add_addm] at this
        simpa using this)
    refine ⟨some a, cap, (List.range len).map f, by simp, ?_, ?_⟩
    · intro k x hx
      have hk := (List.getElem?_eq_some_iff.1 hx).1
      rw [List.length_map, List.length_range] at hk
      rw [List.getElem?_map, List.getElem?_range hk] at hx
      cases hx
      obtain ⟨q0, q1, -⟩ := hf k hk
      obtain ⟨b, off, sp⟩ := a
      have hsp : sp = none := by simpa [Addr.add] using World.cell?_spot (hf 0 (by omega)).1
      subst hsp
      refine ⟨b, off, rfl, ?_, ?_⟩
      · rw [← add_lit]; exact q0
      · rw [Nat.add_assoc, ← add_lit]; exact q1
    · intro y hy
      simp only [List.mem_map, List.mem_range] at hy
      obtain ⟨i, hi, rfl⟩ := hy
      have := (hf i hi).2.2
      unfold maxLen at this
      omega
end Go.Proofs.YtkkpdgfllnbigaaGreat
namespace Go.Proofs.YtkkpdgfllnbigaaGreat
open Go.ChangeShapes Go.WideShapes Go.ChangeAt Go.RowKit Go.Shelf
set_option linter.unusedSimpArgs false
end Go.Proofs.YtkkpdgfllnbigaaGreat
namespace Go.Proofs.YtkkpdgfllnbigaaGreat
open Go
/-- The parts of a row's closed facts. -/
def jA (P : Program) (fn : Func) (s : ChangeSpec) (c : OpenClaim) : Bool :=
  c.wf (OpenSpec.ofChange s) && laidOutB P && mapsRowed P && fn.params.all (P.readableRec ·) && namedTie P c.named s.vars &&
  (c.stops == []) && (P.stops == []) && (c.knobs == []) && (P.stopKnobs == [])
def jB (P : Program) (fn : Func) (s : ChangeSpec) (c : OpenClaim) : Bool :=
  (c.maps == (fn.params.toList ++ s.plain.varTypes P).any (P.mapsRec ·)) && (c.ifaces == (fn.params.toList ++ s.plain.varTypes P).any (P.ifacesRec ·)) && (c.mapsOut == P.mapsAmong fn.resultTypes.toList) &&
  (c.loops == (fn.params.toList ++ s.plain.varTypes P).any (P.loopsFrom ·)) && (c.wideKeys == (fn.params.toList ++ s.plain.varTypes P ++ fn.resultTypes.toList).any (P.wideKeysFrom ·)) &&
  s.vars.all (P.varReadable ·) && fn.resultTypes.all (fun t => P.readableRec t && decide (t < P.types.size)) && (c.ifacesOut == fn.resultTypes.toList.any (P.ifacesRec ·)) && (c.loopsOut == fn.resultTypes.toList.any (P.loopsFrom ·))
def jC (P : Program) (c : OpenClaim) : Bool :=
  (c.plainKeys == P.plainKeys) && c.shortTexts.isNone && P.stopsHeard && P.mayEnter && (c.lifted == P.liftsFinal) && (P.make == some c.make)
def jD (P : Program) (fn : Func) (s : ChangeSpec) (c : OpenClaim) : Bool :=
  (c.kinds == (if c.domain.isEmpty then [] else fn.params.toList.map fun t => match P.underlying t with | some (.int k) => some k | _ => none)) && (c.pinned == c.pinnedBy) &&
  (c.veiled == (fn.params.toList ++ s.plain.varTypes P ++ fn.resultTypes.toList).any (P.veiledRec ·)) && c.veiledFits P fn.params.toList (fn.params.toList ++ s.plain.varTypes P ++ fn.resultTypes.toList)
theorem joined_of {P : Program} {f : FuncId} {fn : Func} {s : ChangeSpec} {c : OpenClaim} (a : jA P fn s c = true) (x1 : (c.inPlace == P.inPlace f) = true) (x2 : (c.unfollowed == P.unfollowed f) = true) (x3 : (c.recurses == P.recurses f) = true) (x4 : (c.named == P.varsNamed f) = true) (b : jB P fn s c = true) (g : jC P c = true) (d : jD P fn s c = true) : joinedFacts P f fn s c = true := by
  unfold jA at a
  unfold jB at b
  unfold jC at g
  unfold jD at d
  unfold joinedFacts
  simp only [Bool.and_eq_true] at a b g d ⊢
  obtain ⟨⟨⟨⟨⟨⟨⟨⟨a1, a2⟩, a3⟩, a4⟩, a5⟩, a6⟩, a7⟩, a8⟩, a9⟩ := a
  obtain ⟨⟨⟨⟨⟨⟨⟨⟨b1, b2⟩, b3⟩, b4⟩, b5⟩, b6⟩, b7⟩, b8⟩, b9⟩ := b
  obtain ⟨⟨⟨⟨⟨g1, g2⟩, g3⟩, g4⟩, g5⟩, g6⟩ := g
  obtain ⟨⟨⟨d1, d2⟩, d3⟩, d4⟩ := d
  exact ⟨⟨⟨⟨⟨⟨⟨⟨⟨⟨⟨⟨⟨⟨⟨⟨⟨⟨⟨⟨⟨⟨⟨⟨⟨⟨⟨⟨⟨⟨⟨a1, a2⟩, a3⟩, a4⟩, a5⟩, a6⟩, a7⟩, a8⟩, a9⟩, x1⟩, x2⟩, x3⟩, x4⟩, b1⟩, b2⟩, b3⟩, b4⟩, b5⟩, b6⟩, b7⟩, b8⟩, b9⟩, g1⟩, g2⟩, g3⟩, g4⟩, g5⟩, g6⟩, d1⟩, d2⟩, d3⟩, d4⟩
end Go.Proofs.YtkkpdgfllnbigaaGreat
