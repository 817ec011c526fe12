/-
  HOW ARGUMENTS COME IN: slices of texts, operations, operations in a row, Steps.
-/
import Derived.Test.YtkdgageljgfgoaaGreatDoorDone9
import Derived.OpenShut
import Derived.Lib.SmallJoins
import Derived.ShutString
import Derived.ChangeOld
import Derived.Below
import Derived.SliceStrings
import Derived.Deep.Grids
import Derived.ProofKit
import Derived.SizedLaws
namespace Go.Proofs.YtkdgageljgfgoaaGreatDoor
open Go.ChangeShapes Go.WideShapes Go.ChangeAt Go.RowKit Go.Lib Go.Shelf

theorem own : ownKnob Tryz.prog.godebug = none := by kernel_rfl
theorem laidOut : laidOutB Tryz.prog = true := by kernel_rfl
theorem cells_agg {v : Value} {n : Nat} (h : v.cells.toList.length = n) (hn : n ≠ 1) : ∃ cs : List Value, v = .agg cs.toArray ∧ cs.length = n ∧ v.cells.toList = cs := by
  cases v with
  | agg cs => exact ⟨cs.toList, by simp, by simpa [Value.cells] using h, rfl⟩
  | _ => simp [Value.cells] at h; exact absurd h.symm hn
theorem Tryz.cells2o : Tryz.prog.cellsOf 2 = 1 := by kernel_rfl
theorem Tryz.cells9o : Tryz.prog.cellsOf 9 = 1 := by kernel_rfl
theorem Tryz.cells22o : Tryz.prog.cellsOf 22 = 1 := by kernel_rfl
theorem Tryz.cells23o : Tryz.prog.cellsOf 23 = 1 := by kernel_rfl
theorem Tryz.cells24o : Tryz.prog.cellsOf 24 = 1 := by kernel_rfl
theorem Tryz.cells26o : Tryz.prog.cellsOf 26 = 6 := by kernel_rfl
theorem Tryz.cells70o : Tryz.prog.cellsOf 70 = 1 := by kernel_rfl
theorem Tryz.cells72o : Tryz.prog.cellsOf 72 = 4 := by kernel_rfl
theorem Tryz.bytes9o : Tryz.prog.bytesOf 9 = 16 := by kernel_rfl
theorem Tryz.bytes26o : Tryz.prog.bytesOf 26 = 80 := by kernel_rfl
theorem addr_add0 (b : Addr) : b.add 0 = b := by unfold Addr.add; split <;> simp_all
instance : Inhabited ByteArray := ⟨⟨#[]⟩⟩
instance : Inhabited OpM := ⟨⟨none, 0, [], 0, ⟨#[]⟩, 0, 0, ⟨#[]⟩⟩⟩
theorem weightsAll_mem {H : Type} {P : Program} {e : TypeId} {d : DataW H} : ∀ {l : List (DataW H)}, d ∈ l → (DataW.weightsAll P e l).all (· ≤ reachBytes) = true → (d.weights P e).all (· ≤ reachBytes) = true
  | a :: r, h, hw => by
    simp only [DataW.weightsAll, List.all_append, Bool.and_eq_true] at hw
    rcases List.mem_cons.1 h with rfl | h
    · exact hw.1
    · exact weightsAll_mem h hw.2
/-- A slice of texts that came in. -/
theorem open_path {H : Type} {enc : TypeId × Value → H} {W : World} {fuel : Nat} {v : Value} {x : DataW H × List MemPlace} (h : DataW.trod enc Tryz.prog W 0 (fun _ => true) true fuel 22 [v] = some x) (hw : (x.1.weights Tryz.prog 22).all (· ≤ reachBytes) = true) :
    ∃ ao c l, v = .slice ao (List.length l) c ∧ Rp W ao c l ∧ ∀ s ∈ l, s.size ≤ maxLen := by
  rcases Deep.open_slice Tryz.underlying22 h with ⟨hcs, hx⟩ | ⟨a, len, cap, m, n, D, Pl, hcs, _, hl, hm, hmm, hx, hel⟩
  · simp only [List.cons.injEq, and_true] at hcs
    subst hcs
    exact ⟨none, 0, [], rfl, ⟨⟨fun _ => rfl, fun _ h => by cases h⟩, by simp, fun _ => rfl, by simp⟩, by simp⟩
  · simp only [List.cons.injEq, and_true] at hcs
    subst hcs
    simp only [if_true] at hmm
    rw [Tryz.cells9o] at hel
    rw [hx] at hw
    simp only [DataW.weights, Tryz.underlying22, Tryz.bytes9o, List.all_cons, List.all_append, Bool.and_eq_true, decide_eq_true_eq] at hw
    obtain ⟨f, hf⟩ := Deep.choose_lt (n := len) (p := fun i (s : ByteArray) => W.cell? (a.add i) = some (.string s) ∧ s.size ≤ maxLen) (fun i hi => by
      obtain ⟨cs, h1, h2⟩ := hel i (by omega)
      obtain ⟨s, hs, _, hsm⟩ := DataW.trod_string Tryz.underlying9 h2
      obtain ⟨_, _, hc⟩ := World.cells?_some h1
      refine ⟨s, ?_, hsm⟩
      have := hc 0 (by omega)
      rw [hs, addr_add0] at this
      simpa using this)
    refine ⟨some a, cap, (List.range len).map f, by simp, ⟨⟨by simp, ?_⟩, by simpa using hl, by simp, ?_⟩, ?_⟩
    · intro a' ha' j s hj
      cases ha'
      rw [List.getElem?_map] at hj
      rcases hr : (List.range len)[j]? with _ | q
      · rw [hr] at hj; simp at hj
      · have hq := List.getElem?_eq_some_iff.1 hr
        have hjl : j < len := by simpa using hq.1
        rw [hr] at hj
        simp only [Option.map_some, Option.some.injEq] at hj
        have : q = j := by have := hq.2; simp at this; exact this.symm
        subst this
        subst hj
        exact (hf q hjl).1
    · have h1 := hw.1
      simp only [List.length_map, List.length_range] at h1 ⊢
      unfold reachBytes at h1
      omega
    · intro s hs
      obtain ⟨q, hq, rfl⟩ := List.mem_map.1 hs
      exact (hf q (List.mem_range.1 hq)).2
theorem list6o {α : Type} {l : List α} (h : l.length = 6) : ∃ a b c d e f, l = [a, b, c, d, e, f] := by
  match l, h with
  | [a, b, c, d, e, f], _ => exact ⟨a, b, c, d, e, f, rfl⟩
theorem list4o {α : Type} {l : List α} (h : l.length = 4) : ∃ a b c d, l = [a, b, c, d] := by
  match l, h with
  | [a, b, c, d], _ => exact ⟨a, b, c, d, rfl⟩
/-- Texts that are no longer than any. -/
def OpSm (o : OpM) : Prop := (∀ s ∈ o.p, s.size ≤ maxLen) ∧ o.os.size ≤ maxLen ∧ o.tx.size ≤ maxLen
/-- An operation's cells. -/
theorem open_op {H : Type} {enc : TypeId × Value → H} {W : World} {fuel : Nat} {u0 u1 u2 u3 u4 u5 : Value} {x : DataW H × List MemPlace} (h : DataW.trod enc Tryz.prog W 0 (fun _ => true) true fuel 26 [u0, u1, u2, u3, u4, u5] = some x) (hw : (x.1.weights Tryz.prog 26).all (· ≤ reachBytes) = true) :
    ∃ o : OpM, u0 = .slice o.pa o.p.length o.pc ∧ u1 = .int .i64 o.ok ∧ u2 = .string o.os ∧ u3 = .int .i64 o.d ∧ u4 = .int .i64 o.on ∧ u5 = .string o.tx ∧ Rp W o.pa o.pc o.p ∧ OpSm o := by
  obtain ⟨xs, n, _, hx, hl, hlen, hf⟩ := DataW.trod_struct Tryz.underlying26 h
  obtain ⟨y0, y1, y2, y3, y4, y5, rfl⟩ := list6o (show xs.length = 6 from hlen)
  have e0 : DataW.trod enc Tryz.prog W 0 (fun _ => true) true n 22 (([u0, u1, u2, u3, u4, u5].drop 0).take (Tryz.prog.cellsOf 22)) = some y0 := hf 0 _ rfl
  have e1 : DataW.trod enc Tryz.prog W 0 (fun _ => true) true n 23 (([u0, u1, u2, u3, u4, u5].drop 1).take (Tryz.prog.cellsOf 23)) = some y1 := hf 1 _ rfl
  have e2 : DataW.trod enc Tryz.prog W 0 (fun _ => true) true n 9 (([u0, u1, u2, u3, u4, u5].drop 2).take (Tryz.prog.cellsOf 9)) = some y2 := hf 2 _ rfl
  have e3 : DataW.trod enc Tryz.prog W 0 (fun _ => true) true n 24 (([u0, u1, u2, u3, u4, u5].drop 3).take (Tryz.prog.cellsOf 24)) = some y3 := hf 3 _ rfl
  have e4 : DataW.trod enc Tryz.prog W 0 (fun _ => true) true n 2 (([u0, u1, u2, u3, u4, u5].drop 4).take (Tryz.prog.cellsOf 2)) = some y4 := hf 4 _ rfl
  have e5 : DataW.trod enc Tryz.prog W 0 (fun _ => true) true n 9 (([u0, u1, u2, u3, u4, u5].drop 5).take (Tryz.prog.cellsOf 9)) = some y5 := hf 5 _ rfl
  rw [Tryz.cells22o] at e0
  rw [Tryz.cells23o] at e1
  rw [Tryz.cells9o] at e2 e5
  rw [Tryz.cells24o] at e3
  rw [Tryz.cells2o] at e4
  simp only [List.drop_zero, List.take_succ_cons, List.take_zero, List.drop_succ_cons] at e0 e1 e2 e3 e4 e5
  rw [hx] at hw
  simp only [DataW.weights, Tryz.underlying26, List.map_cons, List.map_nil, DataW.weightsEach, List.all_append, Bool.and_eq_true] at hw
  obtain ⟨k, r1, _, _⟩ := DataW.trod_int Tryz.underlying23 e1
  obtain ⟨s, r2, _, hs⟩ := DataW.trod_string Tryz.underlying9 e2
  obtain ⟨d, r3, _, _⟩ := DataW.trod_int Tryz.underlying24 e3
  obtain ⟨m, r4, _, _⟩ := DataW.trod_int Tryz.underlying2 e4
  obtain ⟨t, r5, _, ht⟩ := DataW.trod_string Tryz.underlying9 e5
  simp only [List.cons.injEq, and_true] at r1 r2 r3 r4 r5
  subst r1 r2 r3 r4 r5
  obtain ⟨ao, c, l, rfl, q, hq⟩ := open_path e0 hw.1
  exact ⟨⟨ao, c, l, k, s, d, m, t⟩, rfl, rfl, rfl, rfl, rfl, rfl, q, hq, hs, ht⟩
/-- Operations in a slice. -/
theorem open_ops {H : Type} {enc : TypeId × Value → H} {W : World} {fuel : Nat} {v : Value} {x : DataW H × List MemPlace} (h : DataW.trod enc Tryz.prog W 0 (fun _ => true) true fuel 70 [v] = some x) (hw : (x.1.weights Tryz.prog 70).all (· ≤ reachBytes) = true) :
    ∃ ao c l, v = .slice ao (List.length l) c ∧ Ro W ao l ∧ l.length ≤ 8796093021952 := by
  rcases Deep.open_slice Tryz.underlying70 h with ⟨hcs, _⟩ | ⟨a, len, cap, m, n, D, Pl, hcs, _, hl, hm, hmm, hx, hel⟩
  · simp only [List.cons.injEq, and_true] at hcs
    subst hcs
    exact ⟨none, 0, [], rfl, fun i o h => by simp at h, by simp⟩
  · simp only [List.cons.injEq, and_true] at hcs
    subst hcs
    simp only [if_true] at hmm
    rw [Tryz.cells26o] at hel
    rw [hx] at hw
    simp only [DataW.weights, Tryz.underlying70, Tryz.bytes26o, List.all_cons, List.all_append, Bool.and_eq_true, decide_eq_true_eq] at hw
    have hsp : 0 < len → a.spot = none := fun h0 => by
      obtain ⟨cs, h1, h2⟩ := hel 0 (by omega)
      obtain ⟨xs, n', _, _, hl', _, _⟩ := DataW.trod_struct Tryz.underlying26 h2
      rw [Tryz.cells26o] at hl'
      obtain ⟨c0, c1, c2, c3, c4, c5, rfl⟩ := list6o hl'
      obtain ⟨_, _, hc⟩ := World.cells?_some h1
      have q0 := hc 0 (by omega)
      simpa [Addr.add] using World.cell?_spot q0
    obtain ⟨f, hf⟩ := Deep.choose_lt (n := len) (p := fun i (o : OpM) => Rp W o.pa o.pc o.p ∧ ∃ b off, some a = some ⟨b, off, none⟩ ∧ W.cell? ⟨b, off + i * 6, none⟩ = some (.slice o.pa o.p.length o.pc) ∧ W.cell? ⟨b, off + i * 6 + 1, none⟩ = some (.int .i64 o.ok) ∧ W.cell? ⟨b, off + i * 6 + 2, none⟩ = some (.string o.os) ∧ W.cell? ⟨b, off + i * 6 + 3, none⟩ = some (.int .i64 o.d) ∧ W.cell? ⟨b, off + i * 6 + 4, none⟩ = some (.int .i64 o.on) ∧ W.cell? ⟨b, off + i * 6 + 5, none⟩ = some (.string o.tx)) (fun i hi => by
      obtain ⟨cs, h1, h2⟩ := hel i (by omega)
      obtain ⟨xs, n', _, _, hl', _, _⟩ := DataW.trod_struct Tryz.underlying26 h2
      rw [Tryz.cells26o] at hl'
      obtain ⟨c0, c1, c2, c3, c4, c5, rfl⟩ := list6o hl'
      obtain ⟨o, rfl, rfl, rfl, rfl, rfl, rfl, hr, _⟩ := open_op h2 (weightsAll_mem (List.mem_map.2 ⟨i, List.mem_range.2 hi, rfl⟩) hw.2.1)
      obtain ⟨_, _, hc⟩ := World.cells?_some h1
      have q0 := hc 0 (by omega)
      have q1 := hc 1 (by omega)
      have q2 := hc 2 (by omega)
      have q3 := hc 3 (by omega)
      have q4 := hc 4 (by omega)
      have q5 := hc 5 (by omega)
      obtain ⟨b, off, spot⟩ := a
      have hspot : spot = none := hsp (by omega)
      subst hspot
      simp only [add_lit] at q0 q1 q2 q3 q4 q5
      exact ⟨o, hr, b, off, rfl, by simpa using q0, by simpa using q1, by simpa using q2, by simpa using q3, by simpa using q4, by simpa using q5⟩)
    refine ⟨some a, cap, (List.range len).map f, by simp, fun j x hj => ?_, ?_⟩
    · rw [List.getElem?_map] at hj
      obtain ⟨i, hi, rfl⟩ := Option.map_eq_some_iff.1 hj
      have hjl := (List.getElem?_eq_some_iff.1 hi).1
      rw [List.length_range] at hjl
      rw [List.getElem?_range hjl] at hi
      cases hi
      exact hf j hjl
    · have h1 := hw.1
      simp only [List.length_map, List.length_range] at h1 ⊢
      unfold reachBytes at h1
      omega
/-- What two do to one value apart from each other, as it came in. -/
theorem open_stepsO {H : Type} {enc : TypeId × Value → H} {W : World} {v : Value} {d : DataW H} {p : List MemPlace} (h : DataW.Trod enc Tryz.prog W 0 (fun _ => true) true 72 v d p) (hw : (d.weights Tryz.prog 72).all (· ≤ reachBytes) = true) :
    ∃ k oo co lo oa ca la ob cb lb, v = .agg #[.int .i64 k, .slice oo (List.length lo) co, .slice oa (List.length la) ca, .slice ob (List.length lb) cb] ∧ (Ro W oo lo ∧ lo.length ≤ 8796093021952) ∧ (Ro W oa la ∧ la.length ≤ 8796093021952) ∧ (Ro W ob lb ∧ lb.length ≤ 8796093021952) := by
  obtain ⟨fuel, hf⟩ := h
  obtain ⟨xs, n, _, hx, hl, hlen, hff⟩ := DataW.trod_struct Tryz.underlying72 hf
  rw [Tryz.cells72o] at hl
  obtain ⟨cs, rfl, hcs, hcc⟩ := cells_agg hl (by decide)
  obtain ⟨u0, u1, u2, u3, rfl⟩ := list4o hcs
  rw [hcc] at hff
  obtain ⟨y0, y1, y2, y3, rfl⟩ := list4o (show xs.length = 4 from hlen)
  have e0 : DataW.trod enc Tryz.prog W 0 (fun _ => true) true n 23 (([u0, u1, u2, u3].drop 0).take (Tryz.prog.cellsOf 23)) = some y0 := hff 0 _ rfl
  have e1 : DataW.trod enc Tryz.prog W 0 (fun _ => true) true n 70 (([u0, u1, u2, u3].drop 1).take (Tryz.prog.cellsOf 70)) = some y1 := hff 1 _ rfl
  have e2 : DataW.trod enc Tryz.prog W 0 (fun _ => true) true n 70 (([u0, u1, u2, u3].drop 2).take (Tryz.prog.cellsOf 70)) = some y2 := hff 2 _ rfl
  have e3 : DataW.trod enc Tryz.prog W 0 (fun _ => true) true n 70 (([u0, u1, u2, u3].drop 3).take (Tryz.prog.cellsOf 70)) = some y3 := hff 3 _ rfl
  rw [Tryz.cells23o] at e0
  rw [Tryz.cells70o] at e1 e2 e3
  simp only [List.drop_zero, List.take_succ_cons, List.take_zero, List.drop_succ_cons] at e0 e1 e2 e3
  have hd : d = .agg [y0.1, y1.1, y2.1, y3.1] := by have := congrArg Prod.fst hx; simpa using this
  rw [hd] at hw
  simp only [DataW.weights, Tryz.underlying72, List.map_cons, List.map_nil, DataW.weightsEach, List.all_append, Bool.and_eq_true] at hw
  obtain ⟨k, r0, _, _⟩ := DataW.trod_int Tryz.underlying23 e0
  simp only [List.cons.injEq, and_true] at r0
  subst r0
  obtain ⟨oo, co, lo, rfl, q0⟩ := open_ops e1 hw.2.1
  obtain ⟨oa, ca, la, rfl, q1⟩ := open_ops e2 hw.2.2.1
  obtain ⟨ob, cb, lb, rfl, q2⟩ := open_ops e3 hw.2.2.2.1
  exact ⟨k, oo, co, lo, oa, ca, la, ob, cb, lb, rfl, q0, q1, q2⟩
end Go.Proofs.YtkdgageljgfgoaaGreatDoor
