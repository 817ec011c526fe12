/-
  OPENN: three stamps in an array, names in a slice: how they come in.
-/
import Derived.Test.YtkjabnpniingnaaGreatDoorLaid
import Derived.Test.YtkjabnpniingnaaGreatDoorSliceN
namespace Go.Proofs.YtkjabnpniingnaaGreatDoor
open Go.ChangeShapes Go.WideShapes Go.ChangeAt Go.RowKit Go.Lib Go.Shelf

theorem open_branchS {H : Type} {enc : TypeId × Value → H} {W : World} {fuel : Nat} {u0 u1 : Value} {x : DataW H × List MemPlace} (h : DataW.trod enc Tryz.prog W 0 (fun _ => true) true fuel 23 [u0, u1] = some x) :
    ∃ r s, u0 = .int .i64 r ∧ u1 = .string s ∧ s.size ≤ maxLen := by
  obtain ⟨xs, n, _, hx, hl, hlen, hf⟩ := DataW.trod_struct Tryz.underlying23 h
  obtain ⟨y0, y1, rfl⟩ := list2 (show xs.length = 2 from hlen)
  have e0 : DataW.trod enc Tryz.prog W 0 (fun _ => true) true n 3 (([u0, u1].drop 0).take (Tryz.prog.cellsOf 3)) = some y0 := hf 0 _ rfl
  have e1 : DataW.trod enc Tryz.prog W 0 (fun _ => true) true n 9 (([u0, u1].drop 1).take (Tryz.prog.cellsOf 9)) = some y1 := hf 1 _ rfl
  rw [Tryz.cells3] at e0
  rw [Tryz.cells9] at e1
  simp only [List.drop_zero, List.take_succ_cons, List.take_zero, List.drop_succ_cons] at e0 e1
  obtain ⟨k, r1, _, _⟩ := DataW.trod_int Tryz.underlying3 e0
  obtain ⟨s, r2, _, hs⟩ := DataW.trod_string Tryz.underlying9 e1
  simp only [List.cons.injEq, and_true] at r1 r2
  exact ⟨k, s, r1, r2, hs⟩
theorem open_nameS {H : Type} {enc : TypeId × Value → H} {W : World} {fuel : Nat} {u0 u1 u2 : Value} {x : DataW H × List MemPlace} (h : DataW.trod enc Tryz.prog W 0 (fun _ => true) true fuel 25 [u0, u1, u2] = some x) :
    ∃ r s n, u0 = .int .i64 r ∧ u1 = .string s ∧ u2 = .int .i64 n ∧ s.size ≤ maxLen := by
  obtain ⟨xs, n, _, hx, hl, hlen, hf⟩ := DataW.trod_struct Tryz.underlying25 h
  obtain ⟨y0, y1, rfl⟩ := list2 (show xs.length = 2 from hlen)
  have e0 : DataW.trod enc Tryz.prog W 0 (fun _ => true) true n 23 (([u0, u1, u2].drop 0).take (Tryz.prog.cellsOf 23)) = some y0 := hf 0 _ rfl
  have e1 : DataW.trod enc Tryz.prog W 0 (fun _ => true) true n 2 (([u0, u1, u2].drop 2).take (Tryz.prog.cellsOf 2)) = some y1 := hf 1 _ rfl
  rw [Tryz.cells23] at e0
  rw [Tryz.cells2] at e1
  simp only [List.drop_zero, List.take_succ_cons, List.take_zero, List.drop_succ_cons] at e0 e1
  obtain ⟨r, s, h0, h1, hs⟩ := open_branchS e0
  obtain ⟨k, r1, _, _⟩ := DataW.trod_int Tryz.underlying2 e1
  simp only [List.cons.injEq, and_true] at r1
  exact ⟨r, s, k, h0, h1, r1, hs⟩
theorem open_cellsS {H : Type} {enc : TypeId × Value → H} {W : World} {fuel : Nat} {u0 u1 u2 u3 u4 : Value} {x : DataW H × List MemPlace} (h : DataW.trod enc Tryz.prog W 0 (fun _ => true) true fuel 27 [u0, u1, u2, u3, u4] = some x) :
    ∃ g r s n i, u0 = .int .i64 g ∧ u1 = .int .i64 r ∧ u2 = .string s ∧ u3 = .int .i64 n ∧ u4 = .int .i64 i ∧ s.size ≤ maxLen := by
  obtain ⟨xs, n, _, hx, hl, hlen, hf⟩ := DataW.trod_struct Tryz.underlying27 h
  obtain ⟨y0, y1, y2, rfl⟩ := list3 (show xs.length = 3 from hlen)
  have e0 : DataW.trod enc Tryz.prog W 0 (fun _ => true) true n 2 (([u0, u1, u2, u3, u4].drop 0).take (Tryz.prog.cellsOf 2)) = some y0 := hf 0 _ rfl
  have e1 : DataW.trod enc Tryz.prog W 0 (fun _ => true) true n 25 (([u0, u1, u2, u3, u4].drop 1).take (Tryz.prog.cellsOf 25)) = some y1 := hf 1 _ rfl
  have e2 : DataW.trod enc Tryz.prog W 0 (fun _ => true) true n 3 (([u0, u1, u2, u3, u4].drop 4).take (Tryz.prog.cellsOf 3)) = some y2 := hf 2 _ rfl
  rw [Tryz.cells2] at e0
  rw [Tryz.cells25] at e1
  rw [Tryz.cells3] at e2
  simp only [List.drop_zero, List.take_succ_cons, List.take_zero, List.drop_succ_cons] at e0 e1 e2
  obtain ⟨k, r1, _, _⟩ := DataW.trod_int Tryz.underlying2 e0
  obtain ⟨r, s, m, h0, h1, h2, hs⟩ := open_nameS e1
  obtain ⟨i, r3, _, _⟩ := DataW.trod_int Tryz.underlying3 e2
  simp only [List.cons.injEq, and_true] at r1 r3
  exact ⟨k, r, s, m, i, r1, h0, h1, h2, r3, hs⟩
theorem cells80n : Tryz.prog.cellsOf 80 = 15 := by kernel_rfl
theorem list15 {α : Type} {l : List α} (h : l.length = 15) : ∃ a b c d e f g i j k m n o p q, l = [a, b, c, d, e, f, g, i, j, k, m, n, o, p, q] := by
  match l, h with
  | [a, b, c, d, e, f, g, i, j, k, m, n, o, p, q], _ => exact ⟨a, b, c, d, e, f, g, i, j, k, m, n, o, p, q, rfl⟩
/-- Three stamps in an array. -/
theorem open_stamps {H : Type} {enc : TypeId × Value → H} {W : World} {v : Value} {d : DataW H} {p : List MemPlace} (h : DataW.Trod enc Tryz.prog W 0 (fun _ => true) true 80 v d p) :
    ∃ g0 r0 l0 n0 x0 g1 r1 l1 n1 x1 g2 r2 l2 n2 x2, v = .agg #[.int .i64 g0, .int .i64 r0, .string l0, .int .i64 n0, .int .i64 x0, .int .i64 g1, .int .i64 r1, .string l1, .int .i64 n1, .int .i64 x1, .int .i64 g2, .int .i64 r2, .string l2, .int .i64 n2, .int .i64 x2] ∧ ByteArray.size l0 ≤ maxLen ∧ ByteArray.size l1 ≤ maxLen ∧ ByteArray.size l2 ≤ maxLen := by
  obtain ⟨fuel, hf⟩ := h
  obtain ⟨xs, n, _, hx, hlen, hl2, hea⟩ := DataW.trod_array Tryz.underlying80 hf
  rw [cells80n] at hlen
  obtain ⟨cs, rfl, hcs, hcc⟩ := cells_agg hlen (by decide)
  rw [hcc] at hea
  obtain ⟨u0, u1, u2, u3, u4, u5, u6, u7, u8, u9, u10, u11, u12, u13, u14, rfl⟩ := list15 hcs
  obtain ⟨y0, y1, y2, rfl⟩ := list3 hl2
  have e0 := hea 0 (by omega)
  have e1 := hea 1 (by omega)
  have e2 := hea 2 (by omega)
  simp only [Tryz.cells27, Nat.zero_mul, Nat.one_mul, Nat.reduceMul, List.drop_zero, List.take_succ_cons, List.take_zero, List.drop_succ_cons, List.getElem?_cons_zero, List.getElem?_cons_succ] at e0 e1 e2
  obtain ⟨g0, r0, l0, n0, x0, rfl, rfl, rfl, rfl, rfl, s0⟩ := open_cellsS e0
  obtain ⟨g1, r1, l1, n1, x1, rfl, rfl, rfl, rfl, rfl, s1⟩ := open_cellsS e1
  obtain ⟨g2, r2, l2, n2, x2, rfl, rfl, rfl, rfl, rfl, s2⟩ := open_cellsS e2
  exact ⟨g0, r0, l0, n0, x0, g1, r1, l1, n1, x1, g2, r2, l2, n2, x2, rfl, s0, s1, s2⟩
/-- Names in a slice. -/
theorem open_names {H : Type} {enc : TypeId × Value → H} {W : World} {fuel : Nat} {v : Value} {x : DataW H × List MemPlace} (h : DataW.trod enc Tryz.prog W 0 (fun _ => true) true fuel 81 [v] = some x) :
    ∃ ao c L, v = .slice ao (List.length L) c ∧ RnO W ao L ∧ (ao = none → c = 0 ∧ L = []) ∧ ∀ y ∈ L, y.2.1.size ≤ maxLen := by
  rcases Deep.open_slice Tryz.underlying81 h with ⟨hcs, hx⟩ | ⟨a, len, cap, m, n, D, Pl, hcs, _, hl, hm, hmm, hx, hel⟩
  · simp only [List.cons.injEq, and_true] at hcs
    subst hcs
    exact ⟨none, 0, [], rfl, RnO.nil _ _, fun _ => ⟨rfl, rfl⟩, by simp⟩
  · simp only [List.cons.injEq, and_true] at hcs
    subst hcs
    simp only [if_true] at hmm
    rw [Tryz.cells25] at hel
    obtain ⟨f, hf⟩ := Deep.choose_lt (n := len) (p := fun i (y : Nm) => W.cell? (a.add (i * 3)) = some (.int .i64 y.1) ∧ W.cell? (a.add (i * 3 + 1)) = some (.string y.2.1) ∧ W.cell? (a.add (i * 3 + 2)) = some (.int .i64 y.2.2) ∧ y.2.1.size ≤ maxLen) (fun i hi => by
      obtain ⟨cs, h1, h2⟩ := hel i (by omega)
      obtain ⟨xs, n', _, _, hl', _, _⟩ := DataW.trod_struct Tryz.underlying25 h2
      rw [Tryz.cells25] at hl'
      obtain ⟨c0, c1, c2, rfl⟩ := list3 hl'
      obtain ⟨r, s, k, rfl, rfl, rfl, hs⟩ := open_nameS h2
      obtain ⟨_, _, hc⟩ := World.cells?_some h1
      refine ⟨(r, s, k), ?_, ?_, ?_, hs⟩
      · have := hc 0 (by omega)
        rw [add_add, Nat.add_zero] at this
        simpa using this
      · have := hc 1 (by omega)
        rw [add_add] at this
        simpa using this
      · have := hc 2 (by omega)
        rw [add_add] at this
        simpa using this)
    refine ⟨some a, cap, (List.range len).map f, by simp, ⟨by simp, ?_⟩, by simp, ?_⟩
    · intro a' ha' j u hj
      cases ha'
      have hjl := (List.getElem?_eq_some_iff.1 hj).1
      rw [flatN_len, List.length_map, List.length_range] at hjl
      have hi : j / 3 < len := by omega
      have hg : ((List.range len).map f)[j / 3]? = some (f (j / 3)) := by rw [List.getElem?_map, List.getElem?_range hi]; rfl
      have he := flatN_get _ (j / 3) (j % 3) _ hg (by omega)
      rw [show j / 3 * 3 + j % 3 = j by omega, hj] at he
      obtain ⟨q0, q1, q2, _⟩ := hf (j / 3) hi
      have hm3 : j % 3 = 0 ∨ j % 3 = 1 ∨ j % 3 = 2 := by omega
      rcases hm3 with h3 | h3 | h3
      · rw [h3] at he; simp [encN] at he; rw [he, show j = j / 3 * 3 by omega]; rw [show j / 3 * 3 / 3 = j / 3 by omega]; exact q0
      · rw [h3] at he; simp [encN] at he; rw [he]; rw [show a.add j = a.add (j / 3 * 3 + 1) by congr 1; omega]; exact q1
      · rw [h3] at he; simp [encN] at he; rw [he]; rw [show a.add j = a.add (j / 3 * 3 + 2) by congr 1; omega]; exact q2
    · intro y hy
      simp only [List.mem_map, List.mem_range] at hy
      obtain ⟨i, hi, rfl⟩ := hy
      exact (hf i hi).2.2.2
theorem rno_rn {w : World} {ao : Option Addr} {L : List Nm} (h : RnO w ao L) (k : Nat) (x : Nm) (hx : L[k]? = some x) : ∃ b off, ao = some ⟨b, off, none⟩ ∧ b < w.heap.size ∧ Rn w b off L := by
  cases ao with
  | none => rw [h.1 rfl] at hx; simp at hx
  | some a =>
    obtain ⟨b, off, sp⟩ := a
    have hk := (List.getElem?_eq_some_iff.1 hx).1
    have hl : 0 < (flatN L).length := by rw [flatN_len]; omega
    have h0 := h.2 _ rfl 0 (flatN L)[0] (List.getElem?_eq_getElem hl)
    simp only [Addr.add, if_true] at h0
    have e : sp = none := World.cell?_spot h0
    subst e
    refine ⟨b, off, rfl, World.block_lt_of_cell? _ _ h0, fun j v hj => ?_⟩
    have := h.2 _ rfl j v hj
    rw [add_lit] at this
    exact this
end Go.Proofs.YtkjabnpniingnaaGreatDoor
