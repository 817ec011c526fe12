/-
  PROVED: the law WireReads of layer 1 (wire) returns true and leaves its arguments as they are: reading any bytes call by call answers just what the chapter says, leaves the reader where it must be, and neither keeps nor changes the bytes; for every slice of bytes and every script that are together of bulk at most 1048576.
-/
import Derived.Test.YtjbnhfcacocgeaaBulks
import Derived.Test.YtjbnhfcacocgeaaReadsW
import Derived.JoinedCond
namespace Go.Proofs.Ytjbnhfcacocgeaa.wireReads
open Go.ChangeShapes Go.WideShapes Go.ChangeAt Go.RowKit

theorem cells43 : Try.prog.cellsOf 43 = 2 := by kernel_rfl
theorem cells3 : Try.prog.cellsOf 3 = 1 := by kernel_rfl

/-- A script that came in. -/
theorem open_script {H : Type} {enc : TypeId × Value → H} {W : World} {fuel : Nat} {v : Value} {x : DataW H × List MemPlace} (h : DataW.trod enc Try.prog W 0 (fun _ => true) true fuel 35 [v] = some x) :
    ∃ so cap ks, v = .slice so ks.length cap ∧ Script W so ks ∧ ks.length ≤ Rows.uptoBulk x.1 := by
  rcases Deep.open_slice Try.underlying35 h with ⟨hcs, hx⟩ | ⟨a, len, cap, m, n, D, Pl, hcs, _, hl, hm, hmm, hx, hel⟩
  · simp only [List.cons.injEq, and_true] at hcs
    subst hcs
    exact ⟨none, 0, [], rfl, fun j k m hj => by simp at hj, by simp⟩
  · simp only [List.cons.injEq, and_true] at hcs
    subst hcs
    simp only [if_true] at hmm
    rw [cells43] at hel
    obtain ⟨f, hf⟩ := Deep.choose_lt (n := len) (p := fun i (km : Int × Int) => W.cell? (a.add (i * 2)) = some (.int .i64 km.1) ∧ W.cell? ((a.add (i * 2)).add 1) = some (.int .i64 km.2) ∧ km.2 ≤ 9223372036854775807) (fun i hi => by
      obtain ⟨cs, h1, h2⟩ := hel i (by omega)
      obtain ⟨y0, y1, n', _, hl2, e0, e1⟩ := trod_struct2 Try.underlying43 h2
      rw [cells43] at hl2
      match cs, hl2 with
      | [c0, c1], _ =>
        simp only [List.drop_zero, cells3, List.take_succ_cons, List.take_zero, List.drop_succ_cons] at e0 e1
        obtain ⟨k, r0, _, _⟩ := DataW.trod_int Try.underlying3 e0
        obtain ⟨mm, r1, _, wm⟩ := DataW.trod_int Try.underlying3 e1
        simp only [List.cons.injEq, and_true] at r0 r1
        subst r0 r1
        obtain ⟨_, _, hc⟩ := World.cells?_some h1
        refine ⟨(k, mm), ?_, ?_, (bounds_i64 wm).2⟩
        · have := hc 0 (by omega)
          rw [add_add, Nat.add_zero] at this
          simpa using this
        · have := hc 1 (by omega)
          simpa using this)
    refine ⟨some a, cap, (List.range len).map f, by simp, ?_, ?_⟩
    · intro j k mm hj
      have hjl : j < len := by
        have := (List.getElem?_eq_some_iff.1 hj).1
        simpa using this
      rw [List.getElem?_map, List.getElem?_range hjl] at hj
      simp only [Option.map_some, Option.some.injEq] at hj
      obtain ⟨e1, e2, e3⟩ := hf j hjl
      rw [hj] at e1 e2 e3
      obtain ⟨e1', _⟩ := hf 0 (by omega)
      obtain ⟨ab, aoff, sp⟩ := a
      have hs : sp = none := World.cell?_spot (by simpa [Addr.add] using e1')
      subst hs
      rw [add_lit] at e1 e2
      rw [add_lit] at e2
      exact ⟨ab, aoff, rfl, e1, e2, e3⟩
    · rw [hx]
      have := bulk_count ((List.range len).map D)
      simp only [Rows.uptoBulk]
      simp only [List.length_map, List.length_range] at this ⊢
      omega

set_option maxRecDepth 100000 in
theorem contract (H : Type) (enc : TypeId × Value → H) (W : World) (base : Nat) (args : Array Value) (ds gs : List (DataW H)) (before : List MemPlace)
    (hval : ∀ (j : Nat) t v, Try.f4.params[j]? = some t → args[j]? = some v → Value.okWide Try.prog W .any base t v)
    (hW : DataW.Whole enc Try.prog Try.f4.params.toList Rows.wireReadsSpec.vars false W args.toList ds gs before) (hk : Rows.uptoSmall H (ds ++ gs) = true) :
    Calls Try.prog 4 args W fun e W' => ∃ v, e = .returned v ∧ Rows.wireReadsSpec.post enc Try.prog Try.f4 false true false false W args v W' := by
  have hW' := hW
  obtain ⟨p, q, hA0, hV, rfl, hfz, hnd⟩ := hW
  have hA : DataW.TrodAll enc Try.prog W 0 (fun _ => true) true Try.f4.params.toList args.toList ds p := hA0
  rw [Try.params4] at hA hval
  obtain ⟨v0, v1, d0, d1, p0, p1, rfl, rfl, rfl, h0, h1⟩ := trodAll_two hA
  obtain ⟨rfl, rfl⟩ := trodVars_none hV
  have k0 := h0
  have k1 := h1
  have lt0 : ∀ x ∈ p0, x.block < W.heap.size := by obtain ⟨m, hm⟩ := k0; exact DataW.trod_lt m _ _ _ hm
  have lt1 : ∀ x ∈ p1, x.block < W.heap.size := by obtain ⟨m, hm⟩ := k1; exact DataW.trod_lt m _ _ _ hm
  obtain ⟨m0, e3⟩ := h0
  obtain ⟨bo, capb, LB, rfl, rb, nb, cb, eb, xb⟩ := open_bytes (x := (d0, p0)) (v := v0) (by
    obtain ⟨a, len, cap, rfl⟩ := okWide_slice Try.underlying23 (hval 0 23 v0 rfl rfl)
    exact e3)
  obtain ⟨m1, e4⟩ := h1
  obtain ⟨so, caps, ks, rfl, hp, hl1⟩ := open_script (x := (d1, p1)) (v := v1) (by
    obtain ⟨a, len, cap, rfl⟩ := okWide_slice Try.underlying35 (hval 1 35 v1 rfl rfl)
    exact e4)
  have hb : Rows.uptoBulkAll ([d0, d1] ++ []) ≤ 1048576 := of_decide_eq_true hk
  simp only [List.append_nil, Rows.uptoBulkAll] at hb
  have hb3 := bulk_slice xb
  simp only at hl1 hb3
  clear hA0 hk
  refine (reads_walk bo so capb caps LB ks W rb nb cb (by omega) eb hp (by omega)).mono fun e W' ⟨he, bel⟩ => ?_
  subst he
  exact ⟨_, rfl, _, _, _, [], _, [], hW', trodAll_mk1 (shut_bool Try.underlying4 _), (trodAll_cons_mk (Below.trod laidOut (by kernel_rfl) (of_decide_eq_true (by kernel_rfl)) k0 bel lt0) (trodAll_cons_mk (Below.trod laidOut (by kernel_rfl) (of_decide_eq_true (by kernel_rfl)) k1 bel lt1) trodAll_mk0)), rfl, bel.frame _, fun h => by cases h⟩

set_option maxRecDepth 100000 in
theorem lifted (os : Os) (started : os.Started) (H : Type) (enc : TypeId × Value → H) (F : Stop.Interp) :
    ReturnsInHanded {} Try.checked os 4 .any ((Rows.OpenSpec.upto Rows.wireReadsSpec).pre6 enc Try.prog Try.f4 Rows.wireReadsUptoRow.domain false) (((Rows.OpenSpec.upto Rows.wireReadsSpec).at F).post enc Try.prog Try.f4 false true false false) := by
  refine returnsInHanded_of_cond (C := Try.checked) (s := Rows.OpenSpec.upto Rows.wireReadsSpec) (k := Rows.uptoSmall) rfl own started (by kernel_rfl) Try.func4
    (OpenSpec.witness (enc := enc) (C := Try.checked) (s := Rows.OpenSpec.upto Rows.wireReadsSpec) (k := Rows.uptoSmall) rfl false ⟨#[], #[.slice none 0 0, .slice none 0 0], []⟩ 8 (by kernel_rfl) (by kernel_rfl) (by kernel_rfl)
      (x := ([.nil, .nil], [], [])) (by kernel_rfl) rfl (by kernel_rfl)) ?_
  intro W base args ds gs before hval hW _ hk _
  exact contract H enc W base args ds gs before hval hW hk
end Go.Proofs.Ytjbnhfcacocgeaa.wireReads
namespace Go.Proofs.Ytjbnhfcacocgeaa

/-- The statement. -/
theorem wireReads_holds : Rows.WireReadsUptoSaid :=
  OpenClaim.holds_of_cond 4 Try.f4 rfl rfl rfl rfl rfl rfl rfl ⟨rfl, rfl, rfl, rfl, rfl⟩ rfl rfl rfl rfl rfl (by kernel_rfl) Try.func4 (by kernel_rfl)
    (of_decide_eq_true (by kernel_rfl)) (by unfold Func.isWrapper; first | (rw [if_pos (by decide +kernel)]; kernel_rfl) | (rw [if_neg (by decide +kernel)]; exact ⟨rfl, rfl⟩))
    (fun os started H enc _ F => wireReads.lifted os started H enc F)
#print axioms wireReads_holds
end Go.Proofs.Ytjbnhfcacocgeaa
