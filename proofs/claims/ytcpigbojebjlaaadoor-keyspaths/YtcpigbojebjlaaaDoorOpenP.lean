/-
  HOW ARGUMENTS ARE OPENED: slices of texts; three places in an array.
-/
import Derived.Test.YtcpigbojebjlaaaDoorOpens
import Derived.Test.YtcpigbojebjlaaaDoorCmps
namespace Go.Proofs.YtcpigbojebjlaaaDoor
open Go.ChangeShapes Go.WideShapes Go.ChangeAt Go.RowKit

theorem Tryd.cells9 : Tryd.prog.cellsOf 9 = 1 := by kernel_rfl
theorem Tryd.cells23 : Tryd.prog.cellsOf 23 = 1 := by kernel_rfl
theorem Tryd.cells45 : Tryd.prog.cellsOf 45 = 1 := by kernel_rfl
theorem Tryd.cells47 : Tryd.prog.cellsOf 47 = 3 := by kernel_rfl
theorem Tryd.cells48 : Tryd.prog.cellsOf 48 = 9 := by kernel_rfl
theorem Tryd.bytes9 : Tryd.prog.bytesOf 9 = 16 := by kernel_rfl
theorem add_none (b : Addr) : b.add 0 = b := by unfold Addr.add; split <;> simp_all
instance : Inhabited ByteArray := ⟨⟨#[]⟩⟩
/-- A slice of texts that came in. -/
theorem open_texts {H : Type} {enc : TypeId × Value → H} {W : World} {fuel : Nat} {v : Value} {x : DataW H × List MemPlace} (h : DataW.trod enc Tryd.prog W 0 (fun _ => true) true fuel 23 [v] = some x) (hw : (x.1.weights Tryd.prog 23).all (· ≤ reachBytes) = true) :
    ∃ ao c l, v = .slice ao (List.length l) c ∧ Rs W ao l ∧ l.length ≤ c ∧ (ao = none → c = 0) ∧ l.length ≤ 8796093021952 := by
  rcases Deep.open_slice Tryd.underlying23 h with ⟨hcs, hx⟩ | ⟨a, len, cap, m, n, D, Pl, hcs, _, hl, hm, hmm, hx, hel⟩
  · simp only [List.cons.injEq, and_true] at hcs
    subst hcs
    exact ⟨none, 0, [], rfl, Rs.nil _ _, by simp, fun _ => rfl, by simp⟩
  · simp only [List.cons.injEq, and_true] at hcs
    subst hcs
    simp only [if_true] at hmm
    rw [Tryd.cells9] at hel
    rw [hx] at hw
    simp only [DataW.weights, Tryd.underlying23, Tryd.bytes9, List.all_cons, List.all_append, Bool.and_eq_true, decide_eq_true_eq] at hw
    obtain ⟨f, hf⟩ := Deep.choose_lt (n := len) (p := fun i (s : ByteArray) => W.cell? (a.add i) = some (.string s)) (fun i hi => by
      obtain ⟨cs, h1, h2⟩ := hel i (by omega)
      obtain ⟨s, hs, _, _⟩ := DataW.trod_string Tryd.underlying9 h2
      obtain ⟨_, _, hc⟩ := World.cells?_some h1
      refine ⟨s, ?_⟩
      have := hc 0 (by omega)
      rw [hs, add_none] at this
      simpa using this)
    refine ⟨some a, cap, (List.range len).map f, by simp, ⟨by simp, ?_⟩, by simpa using hl, by simp, ?_⟩
    · intro a' ha' j s hj
      cases ha'
      rw [List.getElem?_map] at hj
      rcases hr : (List.range len)[j]? with _ | q
      · rw [hr] at hj; simp at hj
      · have hq := List.getElem?_eq_some_iff.1 hr
        have hjl : j < len := by simpa using hq.1
        rw [hr] at hj
        simp only [Option.map_some, Option.some.injEq] at hj
        have : q = j := by have := hq.2; simp at this; exact this.symm
        subst this
        subst hj
        exact hf q hjl
    · have h1 := hw.1
      simp only [List.length_map, List.length_range] at h1 ⊢
      unfold reachBytes at h1
      omega

theorem list9 {α : Type} {l : List α} (h : l.length = 9) : ∃ a b c d e f g i j, l = [a, b, c, d, e, f, g, i, j] := by
  match l, h with
  | [a, b, c, d, e, f, g, i, j], _ => exact ⟨a, b, c, d, e, f, g, i, j, rfl⟩
theorem list3 {α : Type} {l : List α} (h : l.length = 3) : ∃ a b c, l = [a, b, c] := by
  match l, h with
  | [a, b, c], _ => exact ⟨a, b, c, rfl⟩
/-- A place's cells. -/
theorem open_place {H : Type} {enc : TypeId × Value → H} {W : World} {fuel : Nat} {u0 u1 u2 : Value} {x : DataW H × List MemPlace} (h : DataW.trod enc Tryd.prog W 0 (fun _ => true) true fuel 47 [u0, u1, u2] = some x) (hw : (x.1.weights Tryd.prog 47).all (· ≤ reachBytes) = true) :
    ∃ ao c l k s, u0 = .slice ao (List.length l) c ∧ u1 = .int .i64 k ∧ u2 = .string s ∧ Rs W ao l ∧ l.length ≤ c ∧ (ao = none → c = 0) ∧ l.length ≤ 8796093021952 := by
  obtain ⟨xs, n, _, hx, hl, hlen, hf⟩ := DataW.trod_struct Tryd.underlying47 h
  obtain ⟨y0, y1, y2, rfl⟩ := list3 (show xs.length = 3 from hlen)
  have e0 : DataW.trod enc Tryd.prog W 0 (fun _ => true) true n 23 (([u0, u1, u2].drop 0).take (Tryd.prog.cellsOf 23)) = some y0 := hf 0 _ rfl
  have e1 : DataW.trod enc Tryd.prog W 0 (fun _ => true) true n 45 (([u0, u1, u2].drop 1).take (Tryd.prog.cellsOf 45)) = some y1 := hf 1 _ rfl
  have e2 : DataW.trod enc Tryd.prog W 0 (fun _ => true) true n 9 (([u0, u1, u2].drop 2).take (Tryd.prog.cellsOf 9)) = some y2 := hf 2 _ rfl
  rw [Tryd.cells23] at e0
  rw [Tryd.cells45] at e1
  rw [Tryd.cells9] at e2
  simp only [List.drop_zero, List.take_succ_cons, List.take_zero, List.drop_succ_cons] at e0 e1 e2
  rw [hx] at hw
  simp only [DataW.weights, Tryd.underlying47, List.map_cons, List.map_nil, DataW.weightsEach, List.all_append, Bool.and_eq_true] at hw
  obtain ⟨k, r1, _, _⟩ := DataW.trod_int Tryd.underlying45 e1
  obtain ⟨s, r2, _, _⟩ := DataW.trod_string Tryd.underlying9 e2
  simp only [List.cons.injEq, and_true] at r1 r2
  subst r1 r2
  obtain ⟨ao, c, l, rfl, q1, q2, q3, q4⟩ := open_texts e0 hw.1
  exact ⟨ao, c, l, k, s, rfl, rfl, rfl, q1, q2, q3, q4⟩

/-- Three places in an array. -/
theorem open_places {H : Type} {enc : TypeId × Value → H} {W : World} {v : Value} {d : DataW H} {p : List MemPlace} (h : DataW.Trod enc Tryd.prog W 0 (fun _ => true) true 48 v d p) (hw : (d.weights Tryd.prog 48).all (· ≤ reachBytes) = true) :
    ∃ a0 c0 l0 x0 s0 a1 c1 l1 x1 s1 a2 c2 l2 x2 s2, v = .agg #[.slice a0 (List.length l0) c0, .int .i64 x0, .string s0, .slice a1 (List.length l1) c1, .int .i64 x1, .string s1, .slice a2 (List.length l2) c2, .int .i64 x2, .string s2] ∧
      (Rs W a0 l0 ∧ l0.length ≤ c0 ∧ (a0 = none → c0 = 0) ∧ l0.length ≤ 8796093021952) ∧ (Rs W a1 l1 ∧ l1.length ≤ c1 ∧ (a1 = none → c1 = 0) ∧ l1.length ≤ 8796093021952) ∧ (Rs W a2 l2 ∧ l2.length ≤ c2 ∧ (a2 = none → c2 = 0) ∧ l2.length ≤ 8796093021952) := by
  obtain ⟨fuel, hf⟩ := h
  obtain ⟨xs, n, _, hx, hlen, hl2, hea⟩ := DataW.trod_array Tryd.underlying48 hf
  rw [Tryd.cells48] at hlen
  obtain ⟨cs, rfl, hcs, hcc⟩ := cells_agg hlen (by decide)
  rw [hcc] at hea
  obtain ⟨u0, u1, u2, u3, u4, u5, u6, u7, u8, rfl⟩ := list9 hcs
  obtain ⟨y0, y1, y2, rfl⟩ := list3 hl2
  have e0 := hea 0 (by omega)
  have e1 := hea 1 (by omega)
  have e2 := hea 2 (by omega)
  simp only [Tryd.cells47, Nat.zero_mul, Nat.one_mul, Nat.reduceMul, List.drop_zero, List.take_succ_cons, List.take_zero, List.drop_succ_cons, List.getElem?_cons_zero, List.getElem?_cons_succ] at e0 e1 e2
  have hd : d = .agg [y0.1, y1.1, y2.1] := by have := congrArg Prod.fst hx; simpa using this
  rw [hd] at hw
  simp only [DataW.weights, Tryd.underlying48, DataW.weightsAll, List.all_append, Bool.and_eq_true] at hw
  obtain ⟨a0, c0, l0, x0, s0, rfl, rfl, rfl, q0⟩ := open_place e0 hw.1
  obtain ⟨a1, c1, l1, x1, s1, rfl, rfl, rfl, q1⟩ := open_place e1 hw.2.1
  obtain ⟨a2, c2, l2, x2, s2, rfl, rfl, rfl, q2⟩ := open_place e2 hw.2.2.1
  exact ⟨a0, c0, l0, x0, s0, a1, c1, l1, x1, s1, a2, c2, l2, x2, s2, rfl, q0, q1, q2⟩
end Go.Proofs.YtcpigbojebjlaaaDoor
