/-
  PROVED: the law TagsetMaps of layer 11 (tagset) returns true and leaves its arguments as they are: a map that is no set is refused by every call, and shows nothing; for every list of pairs of strings and every text, with no condition.
-/
import Derived.Test.YtkkpdgfllnbigaaGreatTgMp
import Derived.Test.YtkkpdgfllnbigaaGreatMg27
import Derived.Test.YtkkpdgfllnbigaaGreatTgMpF
import Derived.Test.YtkkpdgfllnbigaaGreatRows
import Derived.SizedLaws
import Derived.SliceStrings
import Derived.Deep.Grids
namespace Go.Proofs.YtkkpdgfllnbigaaGreat.tagsetMaps
open Go.ChangeShapes Go.WideShapes Go.ChangeAt Go.RowKit Go.Shelf

set_option linter.unusedSimpArgs false
theorem cells49z : Tryz.prog.cellsOf 49 = 2 := by kernel_rfl
theorem cells9z : Tryz.prog.cellsOf 9 = 1 := by kernel_rfl
theorem list2z {α : Type} {l : List α} (h : l.length = 2) : ∃ a b, l = [a, b] := by
  match l, h with
  | [a, b], _ => exact ⟨a, b, rfl⟩
theorem add_addz (a : Addr) (k j : Nat) : (a.add k).add j = a.add (k + j) := by
  unfold Addr.add
  by_cases hk : k = 0
  · subst hk; simp
  · by_cases hj : j = 0
    · subst hj; simp [hk]
    · simp [hk, hj]; omega
theorem mem_all {H : Type} {P : Program} {e : TypeId} {d : DataW H} {n : Nat} (hn : n ∈ d.weights P e) : ∀ {l : List (DataW H)}, d ∈ l → n ∈ DataW.weightsAll P e l
  | _ :: _, h => by
    rw [DataW.weightsAll, List.mem_append]
    rcases List.mem_cons.1 h with rfl | h
    · exact .inl hn
    · exact .inr (mem_all hn h)
set_option maxRecDepth 100000 in
/-- Pairs of strings in a slice, and that each key has room. -/
theorem open_pairsZ {H : Type} {enc : TypeId × Value → H} {W : World} {fuel : Nat} {v : Value} {x : DataW H × List MemPlace} (h : DataW.trod enc Tryz.prog W 0 (fun _ => true) true fuel 47 [v] = some x) (hw : (x.1.weights Tryz.prog 47).all (· ≤ reachBytes) = true) :
    ∃ ao c L, v = .slice ao (List.length L) c ∧ Rp W ao L ∧ ∀ y ∈ L, y.1.size ≤ 140737488355328 := by
  rcases Deep.open_slice Tryz.underlying47 h with ⟨hcs, hx⟩ | ⟨a, len, cap, m, n, D, Pl, hcs, _, hl, hm, hmm, hx, hel⟩
  · simp only [List.cons.injEq, and_true] at hcs
    subst hcs
    exact ⟨none, 0, [], rfl, fun k x hx => by simp at hx, by simp⟩
  · simp only [List.cons.injEq, and_true] at hcs
    subst hcs
    simp only [if_true] at hmm
    rw [cells49z] at hel
    subst hx
    simp only [DataW.weights, Tryz.underlying47, List.all_cons, List.all_append, Bool.and_eq_true] at hw
    have hall : ∀ n ∈ DataW.weightsAll Tryz.prog 49 ((List.range len).map D), n ≤ 140737488355328 := fun n hn => by
      have h9 : decide (n ≤ reachBytes) = true := List.all_eq_true.1 hw.2.1 n hn
      exact Nat.le_trans (of_decide_eq_true h9) (by decide)
    clear hw
    obtain ⟨f, hf⟩ := Deep.choose_lt (n := len) (p := fun i (y : Kv) => W.cell? (a.add (i * 2)) = some (.string y.1) ∧ W.cell? (a.add (i * 2 + 1)) = some (.string y.2) ∧ y.1.size ≤ 140737488355328) (fun i hi => by
      obtain ⟨cs, h1, h2⟩ := hel i (by omega)
      obtain ⟨xs, n', _, hD, hl', hl2, hea⟩ := DataW.trod_array Tryz.underlying49 h2
      rw [cells49z] at hl'
      obtain ⟨c0, c1, rfl⟩ := list2z hl'
      obtain ⟨y0, y1, rfl⟩ := list2z hl2
      have e0 := hea 0 (by omega)
      have e1 := hea 1 (by omega)
      simp only [cells9z, Nat.zero_mul, Nat.one_mul, Nat.mul_one, Nat.reduceMul, List.drop_zero, List.take_succ_cons, List.take_zero, List.drop_succ_cons, List.getElem?_cons_zero, List.getElem?_cons_succ] at e0 e1
      obtain ⟨s0, r0, g0, z0⟩ := DataW.trod_string Tryz.underlying9 e0
      obtain ⟨s1, r1, _, _⟩ := DataW.trod_string Tryz.underlying9 e1
      simp only [List.cons.injEq, and_true] at r0 r1
      subst r0 r1
      obtain ⟨_, _, hc⟩ := World.cells?_some h1
      have hDi : D i = .agg [.lit (.string s0.data.toList), y1.1] := by
        have := congrArg Prod.fst hD
        simpa [g0] using this
      have hin : s0.data.toList.length ∈ DataW.weightsAll Tryz.prog 49 ((List.range len).map D) := by
        refine mem_all (d := D i) ?_ (List.mem_map.2 ⟨i, List.mem_range.2 hi, rfl⟩)
        rw [hDi]
        simp only [DataW.weights, Tryz.underlying49, DataW.weightsAll]
        simp
      have hle := hall _ hin
      have hle' : s0.size ≤ 140737488355328 := by simpa using hle
      refine ⟨(s0, s1), ?_, ?_, hle'⟩
      · have := hc 0 (by omega)
        rw [add_addz, Nat.add_zero] at this
        simpa using this
      · have := hc 1 (by omega)
        rw [add_addz] at this
        simpa using this)
    refine ⟨some a, cap, (List.range len).map f, by simp, ?_, ?_⟩
    · intro k x hx
      have hk := (List.getElem?_eq_some_iff.1 hx).1
      rw [List.length_map, List.length_range] at hk
      rw [List.getElem?_map, List.getElem?_range hk] at hx
      cases hx
      obtain ⟨q0, q1, -⟩ := hf k hk
      obtain ⟨b, off, sp⟩ := a
      have hsp : sp = none := by simpa [Addr.add] using World.cell?_spot (hf 0 (by omega)).1
      subst hsp
      refine ⟨b, off, rfl, ?_, ?_⟩
      · rw [← add_lit]; exact q0
      · rw [Nat.add_assoc, ← add_lit]; exact q1
    · intro y hy
      simp only [List.mem_map, List.mem_range] at hy
      obtain ⟨i, hi, rfl⟩ := hy
      exact (hf i hi).2.2

set_option maxRecDepth 100000 in
theorem lifted (os : Os) (started : os.Started) (H : Type) (enc : TypeId × Value → H) :
    ReturnsInHanded {} Tryz.checked os 4 .any (Rows.tagsetMapsSpec.pre6 enc Tryz.prog Tryz.f4 Rows.tagsetMapsRow.domain false) (Rows.tagsetMapsSpec.post enc Tryz.prog Tryz.f4 false true false false) := by
  refine returnsInHanded_of_change_sized (C := Tryz.checked) own started (by kernel_rfl) Tryz.func4
    (ChangeSpec.witness6 (enc := enc) (C := Tryz.checked) false ⟨#[], #[.slice none 0 0, .string ⟨#[]⟩], []⟩ 8 (by kernel_rfl) (by kernel_rfl) (by kernel_rfl) (by kernel_rfl)) ?_
  intro W base args ds gs before hval0 hW hcnd hsz0 _
  have hval : ∀ (j : Nat) t v, Tryz.f4.params[j]? = some t → args[j]? = some v → Value.okWide Tryz.prog W .any base t v := hval0
  have hW' := hW
  obtain ⟨p, q, hA0, hV, rfl, hfz, hnd⟩ := hW
  have hA : DataW.TrodAll enc Tryz.prog W 0 (fun _ => true) true Tryz.f4.params.toList args.toList ds p := hA0
  rw [show Tryz.f4.params.toList = [47, 9] from rfl] at hA
  obtain ⟨v0, v1, d0, d1, p0, p1, rfl, rfl, rfl, h0, h1⟩ := trodAll_two hA
  obtain ⟨rfl, rfl⟩ := trodVars_none hV
  have k0 := h0
  have k1 := h1
  have lt0 : ∀ x ∈ p0, x.block < W.heap.size := by obtain ⟨m, hm⟩ := h0; exact DataW.trod_lt m _ _ _ hm
  have lt1 : ∀ x ∈ p1, x.block < W.heap.size := by obtain ⟨m, hm⟩ := h1; exact DataW.trod_lt m _ _ _ hm
  have hsz : (d0.weights Tryz.prog 47).all (· ≤ reachBytes) = true := by
    have h : (DataW.weightsEach Tryz.prog [47, 9] [d0, d1]).all (· ≤ reachBytes) = true := hsz0
    simp only [DataW.weightsEach, List.all_append, Bool.and_eq_true] at h
    exact h.1
  obtain ⟨fuel, hf⟩ := h0
  have hf1 : DataW.trod enc Tryz.prog W 0 (fun _ => true) true fuel 47 [v0] = some (d0, p0) := by
    obtain ⟨a, len, cap, rfl⟩ := okWide_slice Tryz.underlying47 (hval 0 47 v0 rfl rfl)
    exact hf
  obtain ⟨ao, c, L, rfl, hR, hz⟩ := open_pairsZ hf1 hsz
  obtain ⟨X, rfl⟩ := okWide_string Tryz.underlying9 (hval 1 9 v1 rfl rfl)
  clear hA0 hval0 hval
  refine (Tg.maps4 L X ao c W hR hz).mono fun e W' ⟨he, bel⟩ => ?_
  subst he
  exact ⟨_, rfl, _, _, _, [], _, [], hW', trodAll_mk1 (shut_bool Tryz.underlying4 _), trodAll_mk2 (Below.trod laidOut (by kernel_rfl) (of_decide_eq_true (by kernel_rfl)) k0 bel lt0) (Below.trod laidOut (by kernel_rfl) (of_decide_eq_true (by kernel_rfl)) k1 bel lt1), rfl, bel.frame _, fun h => by cases h⟩

theorem over : Rows.tagsetMapsRow.holds Tryz.pinned (OpenSpec.ofChange Rows.tagsetMapsSpec) :=
  OpenClaim.holds_of_wide 4 Tryz.f4 rfl rfl rfl rfl rfl rfl rfl ⟨rfl, rfl, rfl, rfl, rfl⟩ rfl rfl rfl rfl rfl (by kernel_rfl) Tryz.func4 facts
    (of_decide_eq_true (by kernel_rfl)) (by unfold Func.isWrapper; first | (rw [if_pos (by decide +kernel)]; kernel_rfl) | (rw [if_neg (by decide +kernel)]; exact ⟨rfl, rfl⟩))
    (fun os started H enc _ => lifted os started H enc)
end Go.Proofs.YtkkpdgfllnbigaaGreat.tagsetMaps
namespace Go.Proofs.YtkkpdgfllnbigaaGreat
/-- The statement. -/
theorem tagsetMaps_holds : Rows.TagsetMapsSaid := tagsetMaps.over
#print axioms tagsetMaps_holds
end Go.Proofs.YtkkpdgfllnbigaaGreat
