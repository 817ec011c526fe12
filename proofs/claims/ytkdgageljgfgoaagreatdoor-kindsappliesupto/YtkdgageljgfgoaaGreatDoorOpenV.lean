/-
  HOW ARGUMENTS COME IN: slices of texts, operations, operations in a row, Steps.
  HOW ARGUMENTS COME IN: an operation, numbers, stamps, values, three values.
-/
import Derived.Test.YtkdgageljgfgoaaGreatDoorDone9
import Derived.OpenShut
import Derived.Lib.SmallJoins
import Derived.ShutString
import Derived.ChangeOld
import Derived.Below
import Derived.SliceStrings
import Derived.Deep.Grids
import Derived.ProofKit
import Derived.SizedLaws
namespace Go.Proofs.YtkdgageljgfgoaaGreatDoor
open Go.ChangeShapes Go.WideShapes Go.ChangeAt Go.RowKit Go.Lib Go.Shelf

theorem own : ownKnob Tryz.prog.godebug = none := by kernel_rfl
theorem laidOut : laidOutB Tryz.prog = true := by kernel_rfl
theorem cells_agg {v : Value} {n : Nat} (h : v.cells.toList.length = n) (hn : n ≠ 1) : ∃ cs : List Value, v = .agg cs.toArray ∧ cs.length = n ∧ v.cells.toList = cs := by
  cases v with
  | agg cs => exact ⟨cs.toList, by simp, by simpa [Value.cells] using h, rfl⟩
  | _ => simp [Value.cells] at h; exact absurd h.symm hn
theorem Tryz.cells2o : Tryz.prog.cellsOf 2 = 1 := by kernel_rfl
theorem Tryz.cells9o : Tryz.prog.cellsOf 9 = 1 := by kernel_rfl
theorem Tryz.cells22o : Tryz.prog.cellsOf 22 = 1 := by kernel_rfl
theorem Tryz.cells23o : Tryz.prog.cellsOf 23 = 1 := by kernel_rfl
theorem Tryz.cells24o : Tryz.prog.cellsOf 24 = 1 := by kernel_rfl
theorem Tryz.cells26o : Tryz.prog.cellsOf 26 = 6 := by kernel_rfl
theorem Tryz.bytes9o : Tryz.prog.bytesOf 9 = 16 := by kernel_rfl
theorem addr_add0 (b : Addr) : b.add 0 = b := by unfold Addr.add; split <;> simp_all
instance : Inhabited ByteArray := ⟨⟨#[]⟩⟩
instance : Inhabited OpM := ⟨⟨none, 0, [], 0, ⟨#[]⟩, 0, 0, ⟨#[]⟩⟩⟩
/-- A slice of texts that came in. -/
theorem open_path {H : Type} {enc : TypeId × Value → H} {W : World} {fuel : Nat} {v : Value} {x : DataW H × List MemPlace} (h : DataW.trod enc Tryz.prog W 0 (fun _ => true) true fuel 22 [v] = some x) (hw : (x.1.weights Tryz.prog 22).all (· ≤ reachBytes) = true) :
    ∃ ao c l, v = .slice ao (List.length l) c ∧ Rp W ao c l ∧ ∀ s ∈ l, s.size ≤ maxLen := by
  rcases Deep.open_slice Tryz.underlying22 h with ⟨hcs, hx⟩ | ⟨a, len, cap, m, n, D, Pl, hcs, _, hl, hm, hmm, hx, hel⟩
  · simp only [List.cons.injEq, and_true] at hcs
    subst hcs
    exact ⟨none, 0, [], rfl, ⟨⟨fun _ => rfl, fun _ h => by cases h⟩, by simp, fun _ => rfl, by simp⟩, by simp⟩
  · simp only [List.cons.injEq, and_true] at hcs
    subst hcs
    simp only [if_true] at hmm
    rw [Tryz.cells9o] at hel
    rw [hx] at hw
    simp only [DataW.weights, Tryz.underlying22, Tryz.bytes9o, List.all_cons, List.all_append, Bool.and_eq_true, decide_eq_true_eq] at hw
    obtain ⟨f, hf⟩ := Deep.choose_lt (n := len) (p := fun i (s : ByteArray) => W.cell? (a.add i) = some (.string s) ∧ s.size ≤ maxLen) (fun i hi => by
      obtain ⟨cs, h1, h2⟩ := hel i (by omega)
      obtain ⟨s, hs, _, hsm⟩ := DataW.trod_string Tryz.underlying9 h2
      obtain ⟨_, _, hc⟩ := World.cells?_some h1
      refine ⟨s, ?_, hsm⟩
      have := hc 0 (by omega)
      rw [hs, addr_add0] at this
      simpa using this)
    refine ⟨some a, cap, (List.range len).map f, by simp, ⟨⟨by simp, ?_⟩, by simpa using hl, by simp, ?_⟩, ?_⟩
    · intro a' ha' j s hj
      cases ha'
      rw [List.getElem?_map] at hj
      rcases hr : (List.range len)[j]? with _ | q
      · rw [hr] at hj; simp at hj
      · have hq := List.getElem?_eq_some_iff.1 hr
        have hjl : j < len := by simpa using hq.1
        rw [hr] at hj
        simp only [Option.map_some, Option.some.injEq] at hj
        have : q = j := by have := hq.2; simp at this; exact this.symm
        subst this
        subst hj
        exact (hf q hjl).1
    · have h1 := hw.1
      simp only [List.length_map, List.length_range] at h1 ⊢
      unfold reachBytes at h1
      omega
    · intro s hs
      obtain ⟨q, hq, rfl⟩ := List.mem_map.1 hs
      exact (hf q (List.mem_range.1 hq)).2
theorem list6o {α : Type} {l : List α} (h : l.length = 6) : ∃ a b c d e f, l = [a, b, c, d, e, f] := by
  match l, h with
  | [a, b, c, d, e, f], _ => exact ⟨a, b, c, d, e, f, rfl⟩
/-- Texts that are no longer than any. -/
def OpSm (o : OpM) : Prop := (∀ s ∈ o.p, s.size ≤ maxLen) ∧ o.os.size ≤ maxLen ∧ o.tx.size ≤ maxLen
/-- An operation's cells. -/
theorem open_op {H : Type} {enc : TypeId × Value → H} {W : World} {fuel : Nat} {u0 u1 u2 u3 u4 u5 : Value} {x : DataW H × List MemPlace} (h : DataW.trod enc Tryz.prog W 0 (fun _ => true) true fuel 26 [u0, u1, u2, u3, u4, u5] = some x) (hw : (x.1.weights Tryz.prog 26).all (· ≤ reachBytes) = true) :
    ∃ o : OpM, u0 = .slice o.pa o.p.length o.pc ∧ u1 = .int .i64 o.ok ∧ u2 = .string o.os ∧ u3 = .int .i64 o.d ∧ u4 = .int .i64 o.on ∧ u5 = .string o.tx ∧ Rp W o.pa o.pc o.p ∧ OpSm o := by
  obtain ⟨xs, n, _, hx, hl, hlen, hf⟩ := DataW.trod_struct Tryz.underlying26 h
  obtain ⟨y0, y1, y2, y3, y4, y5, rfl⟩ := list6o (show xs.length = 6 from hlen)
  have e0 : DataW.trod enc Tryz.prog W 0 (fun _ => true) true n 22 (([u0, u1, u2, u3, u4, u5].drop 0).take (Tryz.prog.cellsOf 22)) = some y0 := hf 0 _ rfl
  have e1 : DataW.trod enc Tryz.prog W 0 (fun _ => true) true n 23 (([u0, u1, u2, u3, u4, u5].drop 1).take (Tryz.prog.cellsOf 23)) = some y1 := hf 1 _ rfl
  have e2 : DataW.trod enc Tryz.prog W 0 (fun _ => true) true n 9 (([u0, u1, u2, u3, u4, u5].drop 2).take (Tryz.prog.cellsOf 9)) = some y2 := hf 2 _ rfl
  have e3 : DataW.trod enc Tryz.prog W 0 (fun _ => true) true n 24 (([u0, u1, u2, u3, u4, u5].drop 3).take (Tryz.prog.cellsOf 24)) = some y3 := hf 3 _ rfl
  have e4 : DataW.trod enc Tryz.prog W 0 (fun _ => true) true n 2 (([u0, u1, u2, u3, u4, u5].drop 4).take (Tryz.prog.cellsOf 2)) = some y4 := hf 4 _ rfl
  have e5 : DataW.trod enc Tryz.prog W 0 (fun _ => true) true n 9 (([u0, u1, u2, u3, u4, u5].drop 5).take (Tryz.prog.cellsOf 9)) = some y5 := hf 5 _ rfl
  rw [Tryz.cells22o] at e0
  rw [Tryz.cells23o] at e1
  rw [Tryz.cells9o] at e2 e5
  rw [Tryz.cells24o] at e3
  rw [Tryz.cells2o] at e4
  simp only [List.drop_zero, List.take_succ_cons, List.take_zero, List.drop_succ_cons] at e0 e1 e2 e3 e4 e5
  rw [hx] at hw
  simp only [DataW.weights, Tryz.underlying26, List.map_cons, List.map_nil, DataW.weightsEach, List.all_append, Bool.and_eq_true] at hw
  obtain ⟨k, r1, _, _⟩ := DataW.trod_int Tryz.underlying23 e1
  obtain ⟨s, r2, _, hs⟩ := DataW.trod_string Tryz.underlying9 e2
  obtain ⟨d, r3, _, _⟩ := DataW.trod_int Tryz.underlying24 e3
  obtain ⟨m, r4, _, _⟩ := DataW.trod_int Tryz.underlying2 e4
  obtain ⟨t, r5, _, ht⟩ := DataW.trod_string Tryz.underlying9 e5
  simp only [List.cons.injEq, and_true] at r1 r2 r3 r4 r5
  subst r1 r2 r3 r4 r5
  obtain ⟨ao, c, l, rfl, q, hq⟩ := open_path e0 hw.1
  exact ⟨⟨ao, c, l, k, s, d, m, t⟩, rfl, rfl, rfl, rfl, rfl, rfl, q, hq, hs, ht⟩
end Go.Proofs.YtkdgageljgfgoaaGreatDoor
namespace Go.Proofs.YtkdgageljgfgoaaGreatDoor
open Go.ChangeShapes Go.WideShapes Go.ChangeAt Go.RowKit Go.Lib Go.Shelf

theorem Tryz.cells3v : Tryz.prog.cellsOf 3 = 1 := by kernel_rfl
theorem Tryz.cells44v : Tryz.prog.cellsOf 44 = 1 := by kernel_rfl
theorem Tryz.cells46v : Tryz.prog.cellsOf 46 = 3 := by kernel_rfl
theorem Tryz.cells48v : Tryz.prog.cellsOf 48 = 2 := by kernel_rfl
theorem Tryz.cells50v : Tryz.prog.cellsOf 50 = 3 := by kernel_rfl
theorem Tryz.cells52v : Tryz.prog.cellsOf 52 = 5 := by kernel_rfl
theorem Tryz.cells77v : Tryz.prog.cellsOf 77 = 6 := by kernel_rfl
theorem Tryz.bytes77v : Tryz.prog.bytesOf 77 = 64 := by kernel_rfl
instance : Inhabited El := ⟨((0, 0, ⟨#[]⟩, 0, 0), ⟨#[]⟩)⟩
theorem list2v {α : Type} {l : List α} (h : l.length = 2) : ∃ a b, l = [a, b] := by
  match l, h with
  | [a, b], _ => exact ⟨a, b, rfl⟩
theorem list3v {α : Type} {l : List α} (h : l.length = 3) : ∃ a b c, l = [a, b, c] := by
  match l, h with
  | [a, b, c], _ => exact ⟨a, b, c, rfl⟩
theorem list5v {α : Type} {l : List α} (h : l.length = 5) : ∃ a b c d e, l = [a, b, c, d, e] := by
  match l, h with
  | [a, b, c, d, e], _ => exact ⟨a, b, c, d, e, rfl⟩
theorem add_addV (a : Addr) (k j : Nat) : (a.add k).add j = a.add (k + j) := by
  unfold Addr.add
  by_cases hk : k = 0
  · subst hk; simp
  · by_cases hj : j = 0
    · subst hj; simp [hk]
    · simp [hk, hj]; omega

/-- An operation that came in. -/
theorem open_opA {H : Type} {enc : TypeId × Value → H} {W : World} {v : Value} {d : DataW H} {p : List MemPlace} (h : DataW.Trod enc Tryz.prog W 0 (fun _ => true) true 26 v d p) (hw : (d.weights Tryz.prog 26).all (· ≤ reachBytes) = true) :
    ∃ o : OpM, v = opv o.pa o.p.length o.pc o.ok o.os o.d o.on o.tx ∧ Rp W o.pa o.pc o.p ∧ OpSm o := by
  obtain ⟨fuel, hf⟩ := h
  obtain ⟨xs, n, _, hx, hl, hlen, hff⟩ := DataW.trod_struct Tryz.underlying26 hf
  rw [Tryz.cells26o] at hl
  obtain ⟨cs, rfl, hcs, hcc⟩ := cells_agg hl (by decide)
  obtain ⟨u0, u1, u2, u3, u4, u5, rfl⟩ := list6o hcs
  rw [hcc] at hf
  obtain ⟨o, rfl, rfl, rfl, rfl, rfl, rfl, hr, hs⟩ := open_op hf hw
  exact ⟨o, rfl, hr, hs⟩
theorem open_branchV {H : Type} {enc : TypeId × Value → H} {W : World} {fuel : Nat} {u0 u1 : Value} {x : DataW H × List MemPlace} (h : DataW.trod enc Tryz.prog W 0 (fun _ => true) true fuel 48 [u0, u1] = some x) :
    ∃ r s, u0 = .int .i64 r ∧ u1 = .string s ∧ s.size ≤ maxLen := by
  obtain ⟨xs, n, _, hx, hl, hlen, hf⟩ := DataW.trod_struct Tryz.underlying48 h
  obtain ⟨y0, y1, rfl⟩ := list2v (show xs.length = 2 from hlen)
  have e0 : DataW.trod enc Tryz.prog W 0 (fun _ => true) true n 3 (([u0, u1].drop 0).take (Tryz.prog.cellsOf 3)) = some y0 := hf 0 _ rfl
  have e1 : DataW.trod enc Tryz.prog W 0 (fun _ => true) true n 9 (([u0, u1].drop 1).take (Tryz.prog.cellsOf 9)) = some y1 := hf 1 _ rfl
  rw [Tryz.cells3v] at e0
  rw [Tryz.cells9o] at e1
  simp only [List.drop_zero, List.take_succ_cons, List.take_zero, List.drop_succ_cons] at e0 e1
  obtain ⟨k, r1, _, _⟩ := DataW.trod_int Tryz.underlying3 e0
  obtain ⟨s, r2, _, hs⟩ := DataW.trod_string Tryz.underlying9 e1
  simp only [List.cons.injEq, and_true] at r1 r2
  exact ⟨k, s, r1, r2, hs⟩
theorem open_nameV {H : Type} {enc : TypeId × Value → H} {W : World} {fuel : Nat} {u0 u1 u2 : Value} {x : DataW H × List MemPlace} (h : DataW.trod enc Tryz.prog W 0 (fun _ => true) true fuel 50 [u0, u1, u2] = some x) :
    ∃ r s n, u0 = .int .i64 r ∧ u1 = .string s ∧ u2 = .int .i64 n ∧ s.size ≤ maxLen := by
  obtain ⟨xs, n, _, hx, hl, hlen, hf⟩ := DataW.trod_struct Tryz.underlying50 h
  obtain ⟨y0, y1, rfl⟩ := list2v (show xs.length = 2 from hlen)
  have e0 : DataW.trod enc Tryz.prog W 0 (fun _ => true) true n 48 (([u0, u1, u2].drop 0).take (Tryz.prog.cellsOf 48)) = some y0 := hf 0 _ rfl
  have e1 : DataW.trod enc Tryz.prog W 0 (fun _ => true) true n 2 (([u0, u1, u2].drop 2).take (Tryz.prog.cellsOf 2)) = some y1 := hf 1 _ rfl
  rw [Tryz.cells48v] at e0
  rw [Tryz.cells2o] at e1
  simp only [List.drop_zero, List.take_succ_cons, List.take_zero, List.drop_succ_cons] at e0 e1
  obtain ⟨r, s, h0, h1, hs⟩ := open_branchV e0
  obtain ⟨k, r1, _, _⟩ := DataW.trod_int Tryz.underlying2 e1
  simp only [List.cons.injEq, and_true] at r1
  exact ⟨r, s, k, h0, h1, r1, hs⟩
theorem open_stampV {H : Type} {enc : TypeId × Value → H} {W : World} {fuel : Nat} {u0 u1 u2 u3 u4 : Value} {x : DataW H × List MemPlace} (h : DataW.trod enc Tryz.prog W 0 (fun _ => true) true fuel 52 [u0, u1, u2, u3, u4] = some x) :
    ∃ g r s n i, u0 = .int .i64 g ∧ u1 = .int .i64 r ∧ u2 = .string s ∧ u3 = .int .i64 n ∧ u4 = .int .i64 i ∧ s.size ≤ maxLen := by
  obtain ⟨xs, n, _, hx, hl, hlen, hf⟩ := DataW.trod_struct Tryz.underlying52 h
  obtain ⟨y0, y1, y2, rfl⟩ := list3v (show xs.length = 3 from hlen)
  have e0 : DataW.trod enc Tryz.prog W 0 (fun _ => true) true n 2 (([u0, u1, u2, u3, u4].drop 0).take (Tryz.prog.cellsOf 2)) = some y0 := hf 0 _ rfl
  have e1 : DataW.trod enc Tryz.prog W 0 (fun _ => true) true n 50 (([u0, u1, u2, u3, u4].drop 1).take (Tryz.prog.cellsOf 50)) = some y1 := hf 1 _ rfl
  have e2 : DataW.trod enc Tryz.prog W 0 (fun _ => true) true n 3 (([u0, u1, u2, u3, u4].drop 4).take (Tryz.prog.cellsOf 3)) = some y2 := hf 2 _ rfl
  rw [Tryz.cells2o] at e0
  rw [Tryz.cells50v] at e1
  rw [Tryz.cells3v] at e2
  simp only [List.drop_zero, List.take_succ_cons, List.take_zero, List.drop_succ_cons] at e0 e1 e2
  obtain ⟨k, r1, _, _⟩ := DataW.trod_int Tryz.underlying2 e0
  obtain ⟨r, s, m, h0, h1, h2, hs⟩ := open_nameV e1
  obtain ⟨i, r3, _, _⟩ := DataW.trod_int Tryz.underlying3 e2
  simp only [List.cons.injEq, and_true] at r1 r3
  exact ⟨k, r, s, m, i, r1, h0, h1, h2, r3, hs⟩
/-- A stamp that came in. -/
theorem open_stampA {H : Type} {enc : TypeId × Value → H} {W : World} {v : Value} {d : DataW H} {p : List MemPlace} (h : DataW.Trod enc Tryz.prog W 0 (fun _ => true) true 52 v d p) : ∃ s : St, v = svT s ∧ s.2.2.1.size ≤ maxLen := by
  obtain ⟨fuel, hf⟩ := h
  obtain ⟨xs, n, _, hx, hl, hlen, hff⟩ := DataW.trod_struct Tryz.underlying52 hf
  rw [Tryz.cells52v] at hl
  obtain ⟨cs, rfl, hcs, hcc⟩ := cells_agg hl (by decide)
  rw [hcc] at hf
  obtain ⟨u0, u1, u2, u3, u4, rfl⟩ := list5v hcs
  obtain ⟨g, r, s, n, i, rfl, rfl, rfl, rfl, rfl, hs⟩ := open_stampV hf
  exact ⟨(g, r, s, n, i), rfl, hs⟩
/-- Elements that came in. -/
structure ElsIn (W : World) (ao : Option Addr) (c : Nat) (l : List El) : Prop where
  re : Re W ao l
  cap : l.length ≤ c
  nil : ao = none → c = 0
  len : l.length ≤ 4398046510976
  lab : ∀ y ∈ l, y.1.2.2.1.size ≤ 9223372036854775807
theorem ElsIn.below {W W' : World} {ao : Option Addr} {c : Nat} {l : List El} (h : ElsIn W ao c l) (hb : Below W.heap.size W W') : ElsIn W' ao c l := ⟨h.re.below hb, h.cap, h.nil, h.len, h.lab⟩
theorem open_elemV {H : Type} {enc : TypeId × Value → H} {W : World} {fuel : Nat} {u0 u1 u2 u3 u4 u5 : Value} {x : DataW H × List MemPlace} (h : DataW.trod enc Tryz.prog W 0 (fun _ => true) true fuel 77 [u0, u1, u2, u3, u4, u5] = some x) :
    ∃ y : El, [u0, u1, u2, u3, u4, u5] = encE y ∧ y.1.2.2.1.size ≤ maxLen := by
  obtain ⟨xs, n, _, hx, hl, hlen, hf⟩ := DataW.trod_struct Tryz.underlying77 h
  obtain ⟨y0, y1, rfl⟩ := list2v (show xs.length = 2 from hlen)
  have e0 : DataW.trod enc Tryz.prog W 0 (fun _ => true) true n 52 (([u0, u1, u2, u3, u4, u5].drop 0).take (Tryz.prog.cellsOf 52)) = some y0 := hf 0 _ rfl
  have e1 : DataW.trod enc Tryz.prog W 0 (fun _ => true) true n 9 (([u0, u1, u2, u3, u4, u5].drop 5).take (Tryz.prog.cellsOf 9)) = some y1 := hf 1 _ rfl
  rw [Tryz.cells52v] at e0
  rw [Tryz.cells9o] at e1
  simp only [List.drop_zero, List.take_succ_cons, List.take_zero, List.drop_succ_cons] at e0 e1
  obtain ⟨g, r, s, m, i, rfl, rfl, rfl, rfl, rfl, hs⟩ := open_stampV e0
  obtain ⟨t, r2, _, _⟩ := DataW.trod_string Tryz.underlying9 e1
  simp only [List.cons.injEq, and_true] at r2
  subst r2
  exact ⟨((g, r, s, m, i), t), rfl, hs⟩
theorem open_elems {H : Type} {enc : TypeId × Value → H} {W : World} {fuel : Nat} {v : Value} {x : DataW H × List MemPlace} (h : DataW.trod enc Tryz.prog W 0 (fun _ => true) true fuel 44 [v] = some x) (hw : (x.1.weights Tryz.prog 44).all (· ≤ reachBytes) = true) :
    ∃ ao c l, v = .slice ao (List.length l) c ∧ ElsIn W ao c l := by
  rcases Deep.open_slice Tryz.underlying44 h with ⟨hcs, _⟩ | ⟨a, len, cap, m, n, D, Pl, hcs, _, hl, hm, hmm, hx, hel⟩
  · simp only [List.cons.injEq, and_true] at hcs
    subst hcs
    exact ⟨none, 0, [], rfl, Re.nil _ _, by simp, fun _ => rfl, by simp, by simp⟩
  · simp only [List.cons.injEq, and_true] at hcs
    subst hcs
    simp only [if_true] at hmm
    rw [Tryz.cells77v] at hel
    rw [hx] at hw
    simp only [DataW.weights, Tryz.underlying44, Tryz.bytes77v, List.all_cons, List.all_append, Bool.and_eq_true, decide_eq_true_eq] at hw
    obtain ⟨f, hf⟩ := Deep.choose_lt (n := len) (p := fun i (y : El) => (∀ j u, (encE y)[j]? = some u → W.cell? (a.add (i * 6 + j)) = some u) ∧ y.1.2.2.1.size ≤ maxLen) (fun i hi => by
      obtain ⟨cs, h1, h2⟩ := hel i (by omega)
      obtain ⟨xs, n', _, _, hl', _, _⟩ := DataW.trod_struct Tryz.underlying77 h2
      rw [Tryz.cells77v] at hl'
      obtain ⟨c0, c1, c2, c3, c4, c5, rfl⟩ := list6o hl'
      obtain ⟨y, hy, hs⟩ := open_elemV h2
      obtain ⟨_, _, hc⟩ := World.cells?_some h1
      refine ⟨y, fun j u hj => ?_, hs⟩
      rw [← hy] at hj
      have hj6 : j < 6 := by have := (List.getElem?_eq_some_iff.1 hj).1; simpa using this
      have := hc j (by simpa using hj6)
      rw [add_addV, hj] at this
      exact this)
    refine ⟨some a, cap, (List.range len).map f, by simp, ⟨by simp, ?_⟩, by simpa using hl, by simp, ?_, ?_⟩
    · intro a' ha' j u hj
      cases ha'
      have hjl := (List.getElem?_eq_some_iff.1 hj).1
      rw [flatE_len, List.length_map, List.length_range] at hjl
      have hi : j / 6 < len := by omega
      have hg : ((List.range len).map f)[j / 6]? = some (f (j / 6)) := by rw [List.getElem?_map, List.getElem?_range hi]; rfl
      have he := flatE_get _ (j / 6) (j % 6) _ hg (by omega)
      rw [show j / 6 * 6 + j % 6 = j by omega, hj] at he
      have := (hf (j / 6) hi).1 (j % 6) u he.symm
      rwa [show j / 6 * 6 + j % 6 = j by omega] at this
    · have h1 := hw.1
      simp only [List.length_map, List.length_range] at h1 ⊢
      unfold reachBytes at h1
      omega
    · intro y hy
      simp only [List.mem_map, List.mem_range] at hy
      obtain ⟨i, hi, rfl⟩ := hy
      have := (hf i hi).2
      unfold maxLen at this
      omega
/-- A value's cells. -/
theorem open_valueV {H : Type} {enc : TypeId × Value → H} {W : World} {fuel : Nat} {u0 u1 u2 : Value} {x : DataW H × List MemPlace} (h : DataW.trod enc Tryz.prog W 0 (fun _ => true) true fuel 46 [u0, u1, u2] = some x) (hw : (x.1.weights Tryz.prog 46).all (· ≤ reachBytes) = true) :
    ∃ k n ao c l, u0 = .int .i64 k ∧ u1 = .int .i64 n ∧ u2 = .slice ao (List.length l) c ∧ ElsIn W ao c l := by
  obtain ⟨xs, n, _, hx, hl, hlen, hf⟩ := DataW.trod_struct Tryz.underlying46 h
  obtain ⟨y0, y1, y2, rfl⟩ := list3v (show xs.length = 3 from hlen)
  have e0 : DataW.trod enc Tryz.prog W 0 (fun _ => true) true n 23 (([u0, u1, u2].drop 0).take (Tryz.prog.cellsOf 23)) = some y0 := hf 0 _ rfl
  have e1 : DataW.trod enc Tryz.prog W 0 (fun _ => true) true n 2 (([u0, u1, u2].drop 1).take (Tryz.prog.cellsOf 2)) = some y1 := hf 1 _ rfl
  have e2 : DataW.trod enc Tryz.prog W 0 (fun _ => true) true n 44 (([u0, u1, u2].drop 2).take (Tryz.prog.cellsOf 44)) = some y2 := hf 2 _ rfl
  rw [Tryz.cells23o] at e0
  rw [Tryz.cells2o] at e1
  rw [Tryz.cells44v] at e2
  simp only [List.drop_zero, List.take_succ_cons, List.take_zero, List.drop_succ_cons] at e0 e1 e2
  rw [hx] at hw
  simp only [DataW.weights, Tryz.underlying46, List.map_cons, List.map_nil, DataW.weightsEach, List.all_append, Bool.and_eq_true] at hw
  obtain ⟨k, r0, _, _⟩ := DataW.trod_int Tryz.underlying23 e0
  obtain ⟨m, r1, _, _⟩ := DataW.trod_int Tryz.underlying2 e1
  simp only [List.cons.injEq, and_true] at r0 r1
  obtain ⟨ao, c, l, r2, q⟩ := open_elems e2 hw.2.2.1
  exact ⟨k, m, ao, c, l, r0, r1, r2, q⟩
/-- A value that came in. -/
theorem open_valueA {H : Type} {enc : TypeId × Value → H} {W : World} {v : Value} {d : DataW H} {p : List MemPlace} (h : DataW.Trod enc Tryz.prog W 0 (fun _ => true) true 46 v d p) (hw : (d.weights Tryz.prog 46).all (· ≤ reachBytes) = true) :
    ∃ k n ao c l, v = vv k n ao (List.length l) c ∧ ElsIn W ao c l := by
  obtain ⟨fuel, hf⟩ := h
  obtain ⟨xs, n, _, hx, hl, hlen, hff⟩ := DataW.trod_struct Tryz.underlying46 hf
  rw [Tryz.cells46v] at hl
  obtain ⟨cs, rfl, hcs, hcc⟩ := cells_agg hl (by decide)
  rw [hcc] at hf
  obtain ⟨u0, u1, u2, rfl⟩ := list3v hcs
  obtain ⟨k, n, ao, c, l, rfl, rfl, rfl, q⟩ := open_valueV hf hw
  exact ⟨k, n, ao, c, l, rfl, q⟩
end Go.Proofs.YtkdgageljgfgoaaGreatDoor
