/-
  PROVED: the law WireLists of layer 1 (wire) returns true and leaves its arguments as they are: lists are written and read by functions that are handed in, there and back; one thing fewer than allowed is refused, and behind bytes that end too soon the reader stays where it was; for every list of pairs of bulk at most 1048576, and any cut.
-/
import Derived.Test.YtjbnhfcacocgeaaBulks
import Derived.Test.YtjbnhfcacocgeaaListsW
import Derived.JoinedCond
import Derived.OpenShut
namespace Go.Proofs.Ytjbnhfcacocgeaa.wireLists
open Go.ChangeShapes Go.WideShapes Go.ChangeAt Go.RowKit

theorem cells59 : Try.prog.cellsOf 59 = 2 := by kernel_rfl
theorem cells22 : Try.prog.cellsOf 22 = 1 := by kernel_rfl
theorem und59 : Try.prog.underlying 59 = some (.array 2 22) := by kernel_rfl

/-- Pairs of cells are a list of pairs. -/
theorem prs_range (f : Nat → Nat × Nat) : ∀ (n j : Nat) (u : Value), (prs ((List.range n).map f))[j]? = some u → ∃ i, i < n ∧ ((j = i * 2 ∧ u = .int .u64 ((f i).1 : Int)) ∨ (j = i * 2 + 1 ∧ u = .int .u64 ((f i).2 : Int)))
  | n, j, u, h => by
    have hj := (List.getElem?_eq_some_iff.1 h).1
    rw [prs_length] at hj
    simp only [List.length_map, List.length_range] at hj
    have hi : j / 2 < n := by omega
    have hg : ((List.range n).map f)[j / 2]? = some (f (j / 2)) := by rw [List.getElem?_map, List.getElem?_range hi]; rfl
    refine ⟨j / 2, hi, ?_⟩
    by_cases h2 : j % 2 = 0
    · have e := prs_get0 _ _ _ hg
      rw [show 2 * (j / 2) = j by omega, h] at e
      exact .inl ⟨by omega, Option.some.inj e⟩
    · have e := prs_get1 _ _ _ hg
      rw [show 2 * (j / 2) + 1 = j by omega, h] at e
      exact .inr ⟨by omega, Option.some.inj e⟩

/-- A list of pairs that came in. -/
theorem open_pairs {H : Type} {enc : TypeId × Value → H} {W : World} {fuel : Nat} {v : Value} {x : DataW H × List MemPlace} (h : DataW.trod enc Try.prog W 0 (fun _ => true) true fuel 58 [v] = some x) :
    ∃ lo cap ps, v = .slice lo ps.length cap ∧ RdP W lo ps ∧ (lo = none → cap = 0) ∧ Fits ps ∧ ps.length ≤ Rows.uptoBulk x.1 := by
  rcases Deep.open_slice Try.underlying58 h with ⟨hcs, hx⟩ | ⟨a, len, cap, m, n, D, Pl, hcs, _, hl, hm, hmm, hx, hel⟩
  · simp only [List.cons.injEq, and_true] at hcs
    subst hcs
    exact ⟨none, 0, [], rfl, ⟨fun _ => rfl, by simp⟩, fun _ => rfl, fun p hp => by simp at hp, by simp⟩
  · simp only [List.cons.injEq, and_true] at hcs
    subst hcs
    simp only [if_true] at hmm
    rw [cells59] at hel
    obtain ⟨f, hf⟩ := Deep.choose_lt (n := len) (p := fun i (km : Nat × Nat) => W.cell? (a.add (i * 2)) = some (.int .u64 (km.1 : Int)) ∧ W.cell? (a.add (i * 2 + 1)) = some (.int .u64 (km.2 : Int)) ∧ km.1 < 18446744073709551616 ∧ km.2 < 18446744073709551616) (fun i hi => by
      obtain ⟨cs, h1, h2⟩ := hel i (by omega)
      obtain ⟨xs, n', _, _, hlen, hl2, hea⟩ := DataW.trod_array und59 h2
      rw [cells59] at hlen
      match cs, hlen, xs, hl2 with
      | [c0, c1], _, [y0, y1], _ =>
        have e0 := hea 0 (by omega)
        have e1 := hea 1 (by omega)
        simp only [cells22, Nat.zero_mul, Nat.one_mul, List.drop_zero, List.take_succ_cons, List.take_zero, List.drop_succ_cons, List.getElem?_cons_zero, List.getElem?_cons_succ] at e0 e1
        obtain ⟨k, r0, _, wk⟩ := DataW.trod_int Try.underlying22 e0
        obtain ⟨mm, r1, _, wm⟩ := DataW.trod_int Try.underlying22 e1
        simp only [List.cons.injEq, and_true] at r0 r1
        subst r0 r1
        obtain ⟨hk0, hk1⟩ := bounds_u64 wk
        obtain ⟨hm0, hm1⟩ := bounds_u64 wm
        obtain ⟨k, rfl⟩ := Int.eq_ofNat_of_zero_le hk0
        obtain ⟨mm, rfl⟩ := Int.eq_ofNat_of_zero_le hm0
        obtain ⟨_, _, hc⟩ := World.cells?_some h1
        refine ⟨(k, mm), ?_, ?_, by simp only; omega, by simp only; omega⟩
        · have := hc 0 (by omega)
          rw [add_add, Nat.add_zero] at this
          simpa using this
        · have := hc 1 (by omega)
          rw [add_add] at this
          simpa using this)
    refine ⟨some a, cap, (List.range len).map f, by simp, ⟨by simp, ?_⟩, by simp, ?_, ?_⟩
    · intro a' ha' j u hj
      cases ha'
      obtain ⟨i, hi, ⟨rfl, rfl⟩ | ⟨rfl, rfl⟩⟩ := prs_range f len j u hj
      · exact (hf i hi).1
      · exact (hf i hi).2.1
    · intro p hp
      simp only [List.mem_map, List.mem_range] at hp
      obtain ⟨i, hi, rfl⟩ := hp
      exact (hf i hi).2.2
    · rw [hx]
      have := bulk_count ((List.range len).map D)
      simp only [Rows.uptoBulk]
      simp only [List.length_map, List.length_range] at this ⊢
      omega
set_option maxRecDepth 100000 in
theorem contract (H : Type) (enc : TypeId × Value → H) (W : World) (base : Nat) (args : Array Value) (ds gs : List (DataW H)) (before : List MemPlace)
    (hval : ∀ (j : Nat) t v, Try.f6.params[j]? = some t → args[j]? = some v → Value.okWide Try.prog W .any base t v)
    (hW : DataW.Whole enc Try.prog Try.f6.params.toList Rows.wireListsSpec.vars false W args.toList ds gs before) (hk : Rows.uptoSmall H (ds ++ gs) = true) :
    Calls Try.prog 6 args W fun e W' => ∃ v, e = .returned v ∧ Rows.wireListsSpec.post enc Try.prog Try.f6 false true false false W args v W' := by
  have hW' := hW
  obtain ⟨p, q, hA0, hV, rfl, hfz, hnd⟩ := hW
  have hA : DataW.TrodAll enc Try.prog W 0 (fun _ => true) true Try.f6.params.toList args.toList ds p := hA0
  rw [Try.params6] at hA hval
  obtain ⟨v0, v1, d0, d1, p0, p1, rfl, rfl, rfl, h0, h1⟩ := trodAll_two hA
  obtain ⟨rfl, rfl⟩ := trodVars_none hV
  have k0 := h0
  have k1 := h1
  have lt0 : ∀ x ∈ p0, x.block < W.heap.size := by obtain ⟨m, hm⟩ := k0; exact DataW.trod_lt m _ _ _ hm
  have lt1 : ∀ x ∈ p1, x.block < W.heap.size := by obtain ⟨m, hm⟩ := k1; exact DataW.trod_lt m _ _ _ hm
  obtain ⟨m0, e3⟩ := h0
  obtain ⟨lo, capl, ps, rfl, rp, np, fp, xp⟩ := open_pairs (x := (d0, p0)) (v := v0) (by
    obtain ⟨a, len, cap, rfl⟩ := okWide_slice Try.underlying58 (hval 0 58 v0 rfl rfl)
    exact e3)
  obtain ⟨m1, e4⟩ := h1
  obtain ⟨cut', rfl⟩ := okWide_int Try.underlying3 (hval 1 3 v1 rfl rfl)
  have e5 : DataW.trod enc Try.prog W 0 (fun _ => true) true m1 3 [.int .i64 cut'] = some (d1, p1) := e4
  obtain ⟨cut, rc, _, wc⟩ := DataW.trod_int Try.underlying3 e5
  simp only [List.cons.injEq, and_true] at rc
  rw [rc] at hval hA hW' k1 ⊢
  have hb : Rows.uptoBulkAll ([d0, d1] ++ []) ≤ 1048576 := of_decide_eq_true hk
  simp only [List.append_nil, Rows.uptoBulkAll] at hb
  simp only at xp
  obtain ⟨hc0, hc1⟩ := bounds_i64 wc
  clear hA0 hk
  refine (lists_walk lo capl ps cut W rp np fp (by omega) hc0 hc1).mono fun e W' ⟨he, bel⟩ => ?_
  subst he
  exact ⟨_, rfl, _, _, _, [], _, [], hW', trodAll_mk1 (shut_bool Try.underlying4 _), (trodAll_cons_mk (Below.trod laidOut (by kernel_rfl) (of_decide_eq_true (by kernel_rfl)) k0 bel lt0) (trodAll_cons_mk (Below.trod laidOut (by kernel_rfl) (of_decide_eq_true (by kernel_rfl)) k1 bel lt1) trodAll_mk0)), rfl, bel.frame _, fun h => by cases h⟩

set_option maxRecDepth 100000 in
theorem lifted (os : Os) (started : os.Started) (H : Type) (enc : TypeId × Value → H) (F : Stop.Interp) :
    ReturnsInHanded {} Try.checked os 6 .any ((Rows.OpenSpec.upto Rows.wireListsSpec).pre6 enc Try.prog Try.f6 Rows.wireListsUptoRow.domain false) (((Rows.OpenSpec.upto Rows.wireListsSpec).at F).post enc Try.prog Try.f6 false true false false) := by
  refine returnsInHanded_of_cond (C := Try.checked) (s := Rows.OpenSpec.upto Rows.wireListsSpec) (k := Rows.uptoSmall) rfl own started (by kernel_rfl) Try.func6
    (OpenSpec.witness (enc := enc) (C := Try.checked) (s := Rows.OpenSpec.upto Rows.wireListsSpec) (k := Rows.uptoSmall) rfl false ⟨#[], #[.slice none 0 0, .int .i64 0], []⟩ 8 (by kernel_rfl) (by kernel_rfl) (by kernel_rfl)
      (x := ([.nil, .lit (.int .i64 0)], [], [])) (by kernel_rfl) rfl (by kernel_rfl)) ?_
  intro W base args ds gs before hval hW _ hk _
  exact contract H enc W base args ds gs before hval hW hk
end Go.Proofs.Ytjbnhfcacocgeaa.wireLists
namespace Go.Proofs.Ytjbnhfcacocgeaa

/-- The statement. -/
theorem wireLists_holds : Rows.WireListsUptoSaid :=
  OpenClaim.holds_of_cond 6 Try.f6 rfl rfl rfl rfl rfl rfl rfl ⟨rfl, rfl, rfl, rfl, rfl⟩ rfl rfl rfl rfl rfl (by kernel_rfl) Try.func6 (by kernel_rfl)
    (of_decide_eq_true (by kernel_rfl)) (by unfold Func.isWrapper; first | (rw [if_pos (by decide +kernel)]; kernel_rfl) | (rw [if_neg (by decide +kernel)]; exact ⟨rfl, rfl⟩))
    (fun os started H enc _ F => wireLists.lifted os started H enc F)
#print axioms wireLists_holds
end Go.Proofs.Ytjbnhfcacocgeaa
