/-
  WALKS over the program's disk: Write, Same; what a disk that is not there, and a zero one, answer.
-/
import Derived.Test.YtfaceimamipbpaaOf
namespace Go.Proofs.Ytfaceimamipbpaa
open Go.RowKit
set_option linter.unusedSimpArgs false

/-- A struct out of its block, and a number beside it, are handed back. -/
theorem ret_row_tmp {P : Program} {fn : Func} {p q : Tmp} {ty : TypeId} (b : Nat) (cs : List Value) {R : Ending → World → Prop} {a : Act} {w : World} (h : fn.results = #[.cell p ty, .tmp q]) (hp : a.tmps.getD p undef = .pointer (some ⟨b, 0, none⟩)) {v : Value} (hq : a.tmps.getD q undef = v)
    {d : TypeDesc} (hu : P.underlying ty = some d) (hd : d.isRow = true) (hi : (P.info? ty).map (·.size) = some cs.length) {t : TypeId} {fr : Nat × Nat} (hc : w.heap[b]? = some (.cells cs.toArray t fr)) (hdef : a.defers = [])
    (hR : R (.returned (.tuple #[.agg cs.toArray, v])) w) : bodyPost P fn R .ret a w := by
  refine bodyPost_ret (v := .tuple #[.agg cs.toArray, v]) ?_ hdef hR
  have := run_loadVar_mid (P := P) w b 0 ty cs _ (fun j v hv => by rw [cell_of_row w b (0 + j) cs.toArray t fr hc, Nat.zero_add]; simpa using hv) hu hd hi
  have hp' : a.tmps[p]?.getD undef = .pointer (some ⟨b, 0, none⟩) := by simpa using hp
  have hq' : a.tmps[q]?.getD undef = v := by simpa using hq
  simp [results, h, hp', hq', asAddr, Sem.run_bind, Result.andThen, this]

section
variable {F G F' G' : Nat → Prop} {w w' : World} {A B : Nat} {cap : Int} {beg beg' : St} {log log' : List Wr}
set_option maxHeartbeats 1000000 in
set_option maxRecDepth 100000 in
/-- Two disks that are the same. -/
theorem same_yes (hA : PD F G w A cap beg log) (hB : PD F' G' w B cap beg' log') (hs : plays beg log = plays beg' log') :
    Calls Try.prog 18 #[.pointer (some ⟨A, 0, none⟩), .pointer (some ⟨B, 0, none⟩)] w fun e w' => e = .returned (.bool true) ∧ ∃ n, w' = w.drewN n := by
  obtain ⟨va, vb, vl, xs, h0, h4, h5, h6, h7, o0, o1, _, _⟩ := hA.look
  obtain ⟨ua, ub, ul, ys, k0, k4, k5, k6, k7, p0, p1, _, _⟩ := hB.look
  have hp := hA.pos
  have hf := hA.fits.now
  rw [← hs] at k6 p0 p1
  have b0 := hf.b0
  have b1 := hf.b1
  generalize plays beg log = s at *
  obtain ⟨a0, c0, rfl, n0⟩ := o0.form
  obtain ⟨a1, c1, rfl, n1⟩ := o1.form
  obtain ⟨e0, d0, rfl, m0⟩ := p0.form
  obtain ⟨e1, d1, rfl, m1⟩ := p1.form
  have q0 : ∀ n, Calls Try.prog 40 #[.slice a0 s.a0.length c0, .slice e0 s.a0.length d0] (w.drewN n) fun e w' => e = .returned (.bool true) ∧ ∃ m, w' = w.drewN m := fun n => by
    refine (equal_any a0 e0 c0 d0 s.a0 s.a0 _ (o0.rd.drewN n) (p0.rd.drewN n) b0 b0).mono ?_
    rintro e w' ⟨rfl, rfl⟩
    exact ⟨by simp, n, rfl⟩
  have q1 : ∀ n, Calls Try.prog 40 #[.slice a1 s.a1.length c1, .slice e1 s.a1.length d1] (w.drewN n) fun e w' => e = .returned (.bool true) ∧ ∃ m, w' = w.drewN m := fun n => by
    refine (equal_any a1 e1 c1 d1 s.a1 s.a1 _ (o1.rd.drewN n) (p1.rd.drewN n) b1 b1).mono ?_
    rintro e w' ⟨rfl, rfl⟩
    exact ⟨by simp, n, rfl⟩
  have tA := there_yes A cap w h0 hp
  have tB := there_yes B cap w k0 hp
  clear hA hB hs hf o0 o1 p0 p1 b0 b1
  go_enter Try.func18, Try.ntmps18
  go_wp2_with (go_at_call 36; first | (refine tA.mono ?_; clear tA; rintro e w1 ⟨rfl, rfl⟩) | (refine tB.mono ?_; clear tB; rintro e w1 ⟨rfl, rfl⟩))
  go_quiet ((go_at_call 40; first | exact q0 _ | exact q1 _))
  go_wp2
  go_ret
  exact ⟨rfl, _, rfl⟩

set_option maxHeartbeats 1000000 in
set_option maxRecDepth 100000 in
/-- A raw write that was done. -/
theorem write_yes (h : PD F G w A cap beg log) (k : Nat) (x : Wr) (hx : log[k]? = some x) (hd : x.data.length ≤ 140737488355328) : Calls Try.prog 20 #[.pointer (some ⟨A, 0, none⟩), .int .i64 k] w fun e w' =>
    ∃ ao c, e = .returned (.tuple #[wrv x.kind x.area ao x.data.length c, .int .i64 0]) ∧ Own 5 w' w.heap.size (.slice ao x.data.length c) x.data ∧ (ao = none → c = 0) ∧ Below w.heap.size w w' := by
  obtain ⟨va, vb, vl, xs, h0, h4, h5, h6, h7, _, _, hl, hi⟩ := h.look
  have hp := h.pos
  have hk : k < log.length := (List.getElem?_eq_some_iff.1 hx).1
  obtain ⟨ao, c, i1, i2, i3, hG⟩ := hi.at hx
  obtain ⟨bo, d, rfl, hbo, _⟩ := row_form hl
  cases bo with
  | none =>
    exfalso
    rcases hl.2 with ⟨_, q⟩ | ⟨_, _, _, q, _⟩
    · omega
    · simp at q
  | some a =>
    obtain ⟨g, rfl⟩ := hbo _ rfl
    have j1 := World.ownsRow.cells hl (g := g) rfl _ _ i1
    have j2 := World.ownsRow.cells hl (g := g) rfl _ _ i2
    have j3 := World.ownsRow.cells hl (g := g) rfl _ _ i3
    rw [add_lit] at j1 j2 j3
    have hb0 : Below w.heap.size w (w.alloc (.cells #[.int .i64 0, .int .i64 0, .slice none 0 0] 50)) := (Below.refl _ w).alloc (Nat.le_refl _) _
    have hki : (k : Int) < (log.length : Int) := by omega
    have hdk : decide ((log.length : Int) ≤ (k : Int)) = false := by simp; omega
    have hk0 : decide ((k : Int) < 0) = false := by simp
    have hX : ∀ (a : Addr) (v : Value), w.cell? a = some v → (w.alloc (.cells #[.int .i64 0, .int .i64 0, .slice none 0 0] 50)).cell? a = some v := fun a v hv => by rw [hb0.cell (World.block_lt_of_cell? w _ hv)]; exact hv
    have e0 := hX _ _ h0
    have e7 := hX _ _ h7
    have e1 := hX _ _ j1
    have e2 := hX _ _ j2
    have e3 := hX _ _ j3
    rw [Nat.zero_add, Nat.mul_comm] at e1 e2 e3
    have hr := hG.rd.below hb0
    have hn := hG.nil
    clear hX j1 j2 j3
    clear h hx hi hG hbo hl i1 i2 i3
    go_enter Try.func20, Try.ntmps20
    go_wp2_with (first | (go_at_call 36; refine (there_yes A cap _ e0 hp).mono ?_; rintro e w1 ⟨rfl, rfl⟩) | (go_at_call 39; refine (told_any x.kind x.area ao c x.data _ hr hn hd).mono ?_; rintro e w2 ⟨ao2, c2, rfl, ho2, hn2, hb2⟩; unfold wrv; have hc2 := hide ((hb2.block _ (by simp)).trans (heap_alloc_new w _)); obtain ⟨g0, g1, g2, g3, g4, g5⟩ := blk3 hc2.out))
    have hs2 : w.heap.size + 1 ≤ w2.heap.size := by have := hb2.size; simpa using this
    have r2 := (((Only.refl (fun k => k = w.heap.size) w2).setCell ⟨w.heap.size, 0, none⟩ (.int .i64 x.kind) (fun _ => rfl)).setCell ⟨w.heap.size, 1, none⟩ (.int .i64 x.area) (fun _ => rfl)).setCell ⟨w.heap.size, 2, none⟩ (.slice ao2 x.data.length c2) (fun _ => rfl)
    refine ret_row_tmp w.heap.size [.int .i64 x.kind, .int .i64 x.area, .slice ao2 x.data.length c2] rfl rfl rfl Try.underlying50 rfl (by kernel_rfl) (t := 50) (fr := (0, 0)) ?_ rfl ?_
    · rw [heap_setCell_same _ _ _ _ 50 _ (heap_setCell_same _ _ _ _ 50 _ (heap_setCell_same _ _ _ _ 50 _ hc2.out))]
      simp
    · refine ⟨ao2, c2, rfl, ?_, hn2, Below.only (hb0.trans (hb2.mono (by simp))) r2 (by omega) (by intro j hj; omega)⟩
      refine (r2.own ho2 ?_).lift (by simp)
      intro j hj hd
      have := (World.ownsRow.lt ho2 j hj).1
      simp at this
      omega
end

/-! ### Disks that are not there, and zero ones -/
/-- No disk: none, or a zero one. -/
def NoD (w : World) (v : Value) : Prop := v = .pointer none ∨ ∃ Z, v = .pointer (some ⟨Z, 0, none⟩) ∧ w.cell? ⟨Z, 0, none⟩ = some (.int .i64 0)
theorem NoD.below {w w' : World} {v : Value} (h : NoD w v) (hb : Below w.heap.size w w') : NoD w' v := by
  rcases h with h | ⟨Z, h, hc⟩
  · exact .inl h
  · exact .inr ⟨Z, h, by rw [hb.cell (World.block_lt_of_cell? w _ hc)]; exact hc⟩
theorem there_no (w : World) (v : Value) (h : NoD w v) : Calls Try.prog 36 #[v] w fun e w' => e = .returned (.bool false) ∧ w = w' := by
  rcases h with rfl | ⟨Z, rfl, hc⟩
  · exact there_nil w
  · exact there_zero Z w hc
section
variable {w : World} {v : Value} (h : NoD w v)
include h
set_option maxHeartbeats 400000 in
set_option maxRecDepth 100000 in
theorem lay_nil (ar : Int) (b : Value) : Calls Try.prog 13 #[v, .int .i64 ar, b] w fun e w' => e = .returned (.int .i64 1) ∧ w = w' := by
  go_enter Try.func13, Try.ntmps13
  go_wp2_with (go_at_call 36; refine (there_no w v h).mono ?_; rintro e w1 ⟨rfl, rfl⟩)
  go_ret
  exact ⟨rfl, rfl⟩
set_option maxHeartbeats 400000 in
set_option maxRecDepth 100000 in
theorem clear_nil (ar : Int) : Calls Try.prog 14 #[v, .int .i64 ar] w fun e w' => e = .returned (.int .i64 1) ∧ w = w' := by
  go_enter Try.func14, Try.ntmps14
  go_wp2_with (go_at_call 36; refine (there_no w v h).mono ?_; rintro e w1 ⟨rfl, rfl⟩)
  go_ret
  exact ⟨rfl, rfl⟩
set_option maxHeartbeats 400000 in
set_option maxRecDepth 100000 in
theorem turn_nil : Calls Try.prog 15 #[v] w fun e w' => e = .returned (.int .i64 1) ∧ w = w' := by
  go_enter Try.func15, Try.ntmps15
  go_wp2_with (go_at_call 36; refine (there_no w v h).mono ?_; rintro e w1 ⟨rfl, rfl⟩)
  go_ret
  exact ⟨rfl, rfl⟩
set_option maxHeartbeats 400000 in
set_option maxRecDepth 100000 in
theorem used_nil : Calls Try.prog 23 #[v] w fun e w' => e = .returned (.int .i64 0) ∧ w = w' := by
  go_enter Try.func23, Try.ntmps23
  go_wp2_with (go_at_call 36; refine (there_no w v h).mono ?_; rintro e w1 ⟨rfl, rfl⟩)
  go_ret
  exact ⟨rfl, rfl⟩
set_option maxHeartbeats 400000 in
set_option maxRecDepth 100000 in
theorem writes_nil : Calls Try.prog 19 #[v] w fun e w' => e = .returned (.int .i64 0) ∧ w = w' := by
  go_enter Try.func19, Try.ntmps19
  go_wp2_with (go_at_call 36; refine (there_no w v h).mono ?_; rintro e w1 ⟨rfl, rfl⟩)
  go_ret
  exact ⟨rfl, rfl⟩
set_option maxHeartbeats 400000 in
set_option maxRecDepth 100000 in
theorem room_nil (i : Int) : Calls Try.prog 22 #[v, .int .i64 i] w fun e w' => e = .returned (.int .i64 0) ∧ w = w' := by
  go_enter Try.func22, Try.ntmps22
  go_wp2_with (go_at_call 36; refine (there_no w v h).mono ?_; rintro e w1 ⟨rfl, rfl⟩)
  go_ret
  exact ⟨rfl, rfl⟩
set_option maxHeartbeats 400000 in
set_option maxRecDepth 100000 in
theorem area_nil (i : Int) : Calls Try.prog 24 #[v, .int .i64 i] w fun e w' => e = .returned (.tuple #[.slice none 0 0, .int .i64 1]) ∧ w = w' := by
  go_enter Try.func24, Try.ntmps24
  go_wp2_with (go_at_call 36; refine (there_no w v h).mono ?_; rintro e w1 ⟨rfl, rfl⟩)
  go_ret2
  exact ⟨rfl, rfl⟩
set_option maxHeartbeats 400000 in
set_option maxRecDepth 100000 in
theorem cut_nil (n : Int) : Calls Try.prog 17 #[v, .int .i64 n] w fun e w' => e = .returned (.tuple #[.pointer none, .int .i64 1]) ∧ Below w.heap.size w w' := by
  have hb0 : Below w.heap.size w (w.alloc (.cells #[.int .i64 n] 3)) := (Below.refl _ w).alloc (Nat.le_refl _) _
  go_enter Try.func17, Try.ntmps17
  go_wp2_with (go_at_call 36; refine (there_no _ v (h.below hb0)).mono ?_; rintro e w1 ⟨rfl, rfl⟩)
  go_ret2
  exact ⟨rfl, hb0⟩
set_option maxHeartbeats 400000 in
set_option maxRecDepth 100000 in
theorem write_nil (n : Int) : Calls Try.prog 20 #[v, .int .i64 n] w fun e w' => e = .returned (.tuple #[wrv 0 0 none 0 0, .int .i64 1]) ∧ Below w.heap.size w w' := by
  have hb0 : Below w.heap.size w (w.alloc (.cells #[.int .i64 0, .int .i64 0, .slice none 0 0] 50)) := (Below.refl _ w).alloc (Nat.le_refl _) _
  go_enter Try.func20, Try.ntmps20
  go_wp2_with (go_at_call 36; refine (there_no _ v (h.below hb0)).mono ?_; rintro e w1 ⟨rfl, rfl⟩)
  refine ret_row_tmp w.heap.size [.int .i64 0, .int .i64 0, .slice none 0 0] rfl rfl rfl Try.underlying50 rfl (by kernel_rfl) (t := 50) (fr := (0, 0)) ?_ rfl ⟨rfl, ?_⟩
  · exact heap_alloc_new w _
  · exact hb0
set_option maxHeartbeats 400000 in
set_option maxRecDepth 100000 in
theorem copy_nil : Calls Try.prog 30 #[v] w fun e w' => e = .returned (.pointer none) ∧ Below w.heap.size w w' := by
  go_enter Try.func30, Try.ntmps30
  go_wp2_with (first | (go_at_call 19; refine (writes_nil h).mono ?_; rintro e w1 ⟨rfl, rfl⟩) | (go_at_call 17; refine (cut_nil h 0).mono ?_; rintro e w2 ⟨rfl, hb2⟩))
  go_ret
  exact ⟨rfl, hb2⟩
set_option maxHeartbeats 400000 in
set_option maxRecDepth 100000 in
theorem same_nil : Calls Try.prog 18 #[v, .pointer none] w fun e w' => e = .returned (.bool true) ∧ w = w' := by
  have t1 := there_no w v h
  have t2 := t1
  have t3 := there_nil w
  go_enter Try.func18, Try.ntmps18
  go_wp2_with (go_at_call 36; first | (refine t1.mono ?_; clear t1; rintro e w1 ⟨rfl, rfl⟩) | (refine t2.mono ?_; clear t2; rintro e w1 ⟨rfl, rfl⟩) | (refine t3.mono ?_; rintro e w1 ⟨rfl, rfl⟩))
  go_ret
  exact ⟨rfl, rfl⟩
end
theorem all_nil {w : World} {v : Value} (h : NoD w v) : Calls Try.prog 16 #[v] w fun e w' => ∃ L, e = .returned (.func (.func 38) #[] #[.pointer (some ⟨L, 0, none⟩)]) ∧ w'.cell? ⟨L, 0, none⟩ = some (.slice none 0 0) ∧ Below w.heap.size w w' := by
  have hb0 : Below w.heap.size w (w.alloc (.cells #[.slice none 0 0] 58)) := (Below.refl _ w).alloc (Nat.le_refl _) _
  go_enter Try.func16, Try.ntmps16
  go_wp2_with (go_at_call 36; refine (there_no _ v (h.below hb0)).mono ?_; rintro e w1 ⟨rfl, rfl⟩)
  go_ret
  exact ⟨w.heap.size, rfl, by rw [cell_of_row _ _ 0 _ 58 (0, 0) (heap_alloc_new w _)]; rfl, hb0⟩
/-- All, of a disk: the log's slice as it is now lies in a box of its own. -/
theorem all_any {F G : Nat → Prop} {w : World} {R : Nat} {cap : Int} {beg : St} {log : List Wr} (h : PD F G w R cap beg log) : Calls Try.prog 16 #[.pointer (some ⟨R, 0, none⟩)] w fun e w' =>
    ∃ L vl xs, e = .returned (.func (.func 38) #[] #[.pointer (some ⟨L, 0, none⟩)]) ∧ w'.cell? ⟨L, 0, none⟩ = some vl ∧ w.ownsRow 0 50 3 vl log.length xs ∧ Items w G log xs ∧ w.heap.size ≤ L ∧ L < w'.heap.size ∧ Below w.heap.size w w' ∧ (∀ k, vl.ownBlock = some k → F k) := by
  obtain ⟨x0, c0, x1, c1, va, vb, vl, xs, hrep⟩ := h.disk
  have h0 : w.cell? ⟨R, 0, none⟩ = some (.int .i64 cap) := h.cap0
  have h7 : w.cell? ⟨R, 7, none⟩ = some vl := by rw [cell_of_row w R 7 _ 60 (0, 0) hrep.cells]; rfl
  have hl := hrep.ol
  have hi := hrep.it
  have HF := hide (fun k hk => (hrep.fl k hk).1)
  clear hrep
  have hp := h.pos
  have hR := h.lt
  have hb0 : Below w.heap.size w (w.alloc (.cells #[.slice none 0 0] 58)) := (Below.refl _ w).alloc (Nat.le_refl _) _
  have e0 := (hb0.cell (World.block_lt_of_cell? w _ h0)).trans h0
  have e7 := (hb0.cell (World.block_lt_of_cell? w _ h7)).trans h7
  have hn : (w.alloc (.cells #[.slice none 0 0] 58)).heap[w.heap.size]? = some (.cells #[.slice none 0 0] 58 (0, 0)) := heap_alloc_new w _
  obtain ⟨ao, c, hv, _, _⟩ := row_form hl
  have HL := hide hl
  have HI := hide hi
  clear h hl hi
  subst hv
  go_enter Try.func16, Try.ntmps16
  go_wp2_with (go_at_call 36; refine (there_yes R cap _ e0 hp).mono ?_; rintro e w1 ⟨rfl, rfl⟩)
  go_ret
  exact ⟨w.heap.size, _, xs, rfl, by rw [cell_of_row _ _ 0 _ 58 (0, 0) (heap_alloc_new w _)]; rfl, HL.out, HI.out, Nat.le_refl _, by simp, (Below.refl _ w).alloc (Nat.le_refl _) _, HF.out⟩
end Go.Proofs.Ytfaceimamipbpaa
