/-
  walk: Elements 10.
-/
import Derived.Test.YtckkoigghkgfdaaKeepR
namespace Go.Proofs.Ytckkoigghkgfdaa
open Go.RowKit Go.Shelf
set_option linter.unusedSimpArgs false

theorem ret_rr {P : Program} {fn : Func} {p q : Tmp} {ty ty' : TypeId} (b c : Nat) (cs ds : List Value) {R : Ending → World → Prop} {a : Act} {w : World} (h : fn.results = #[.cell p ty, .cell q ty']) (hp : a.tmps.getD p undef = .pointer (some ⟨b, 0, none⟩)) (hq : a.tmps.getD q undef = .pointer (some ⟨c, 0, none⟩))
    {d d' : TypeDesc} (hu : P.underlying ty = some d) (hd : d.isRow = true) (hu' : P.underlying ty' = some d') (hd' : d'.isRow = true) (hi : (P.info? ty).map (·.size) = some cs.length) (hi2 : (P.info? ty').map (·.size) = some ds.length) {t t2 : TypeId} {fr fr2 : Nat × Nat} (hc : w.heap[b]? = some (.cells cs.toArray t fr)) (hc2 : w.heap[c]? = some (.cells ds.toArray t2 fr2)) (hdef : a.defers = [])
    (hR : R (.returned (.tuple #[.agg cs.toArray, .agg ds.toArray])) w) : bodyPost P fn R .ret a w := by
  refine bodyPost_ret (v := .tuple #[.agg cs.toArray, .agg ds.toArray]) ?_ hdef hR
  have h1 := run_loadVar_mid (P := P) w b 0 ty cs _ (fun j v hv => by rw [cell_of_row w b (0 + j) cs.toArray t fr hc, Nat.zero_add]; simpa using hv) hu hd hi
  have h2 := run_loadVar_mid (P := P) w c 0 ty' ds _ (fun j v hv => by rw [cell_of_row w c (0 + j) ds.toArray t2 fr2 hc2, Nat.zero_add]; simpa using hv) hu' hd' hi2
  have hp' : a.tmps[p]?.getD undef = .pointer (some ⟨b, 0, none⟩) := by simpa using hp
  have hq' : a.tmps[q]?.getD undef = .pointer (some ⟨c, 0, none⟩) := by simpa using hq
  simp [results, h, hp', hq', asAddr, Sem.run_bind, Result.andThen, h1, h2]
theorem new5 (w : World) (o0 o1 o2 o3 o4 : Obj) : ∃ w0, w0 = (((((w.alloc o0).alloc o1).alloc o2).alloc o3).alloc o4) ∧ w0.heap[w.heap.size]? = some o0 ∧ w0.heap[w.heap.size + 1]? = some o1 ∧ w0.heap[w.heap.size + 1 + 1]? = some o2 ∧ w0.heap[w.heap.size + 1 + 1 + 1]? = some o3 ∧ w0.heap[w.heap.size + 1 + 1 + 1 + 1]? = some o4 ∧ Below w.heap.size w w0 := by
  refine ⟨_, rfl, ?_⟩
  obtain ⟨m0, m1, m2, m3, hb⟩ := new4 w o0 o1 o2 o3
  have hc : Below ((((w.alloc o0).alloc o1).alloc o2).alloc o3).heap.size ((((w.alloc o0).alloc o1).alloc o2).alloc o3) (((((w.alloc o0).alloc o1).alloc o2).alloc o3).alloc o4) := (Below.refl _ _).alloc (Nat.le_refl _) _
  have h4 := heap_alloc_new ((((w.alloc o0).alloc o1).alloc o2).alloc o3) o4
  rw [show ((((w.alloc o0).alloc o1).alloc o2).alloc o3).heap.size = w.heap.size + 1 + 1 + 1 + 1 from by simp] at h4
  exact ⟨(hc.block _ (Array.getElem?_eq_some_iff.1 m0).1).trans m0, (hc.block _ (Array.getElem?_eq_some_iff.1 m1).1).trans m1, (hc.block _ (Array.getElem?_eq_some_iff.1 m2).1).trans m2, (hc.block _ (Array.getElem?_eq_some_iff.1 m3).1).trans m3, h4, hb.trans (hc.mono hb.size)⟩
set_option maxHeartbeats 8000000 in
set_option maxRecDepth 100000 in
theorem elements_any (fv : ByteArray → Int) (o a b : T) (w : World) (ht : Trio (Told fv) w o a b) :
    Calls Try.prog 10 #[mv o, mv a, mv b] w fun e w' => ∃ t ks, e = .returned (.tuple #[mv t, .agg #[.int .i64 (ks.length : Nat), .int .i64 (ks.length : Nat), .int .i64 (madeIn [o, a, b] t : Nat)]]) ∧ Runs w.heap.size (fun _ p q r => keeps p q r) o a b t ks ∧ In w' t ∧ RunSays (fun _ p q r => keeps p q r) o a b t ks ∧ Below w.heap.size w w' := by
  obtain ⟨po, ho⟩ := o.ptr_shape
  obtain ⟨pa, ha⟩ := a.ptr_shape
  obtain ⟨pb, hb'⟩ := b.ptr_shape
  rw [mv_ptr ho, mv_ptr ha, mv_ptr hb']
  obtain ⟨w0, hw0, m0, m1, m2, m3, m4, hb⟩ := new5 w (.cells #[.pointer po] 29) (.cells #[.pointer pa] 29) (.cells #[.pointer pb] 29) (.cells #[.pointer none] 29) (.cells #[.int .i64 0, .int .i64 0, .int .i64 0] 33)
  have hrun := runKeep_any fv o a b w0 (ht.goes (Goes.of (B := 0) (Tk := 0) hb (Nat.zero_le _)))
  rw [mv_ptr ho, mv_ptr ha, mv_ptr hb'] at hrun
  have d0 : w0.cell? ⟨w.heap.size, 0, none⟩ = some (.pointer po) := (cell_of_row _ _ 0 _ 29 (0, 0) m0).trans rfl
  have d1 : w0.cell? ⟨w.heap.size + 1, 0, none⟩ = some (.pointer pa) := (cell_of_row _ _ 0 _ 29 (0, 0) m1).trans rfl
  have d2 : w0.cell? ⟨w.heap.size + 1 + 1, 0, none⟩ = some (.pointer pb) := (cell_of_row _ _ 0 _ 29 (0, 0) m2).trans rfl
  have HM := hide (And.intro m3 (And.intro m4 hb))
  clear m0 m1 m2 m3 m4 hb ho ha hb' ht
  go_enter Try.func10, Try.ntmps10
  go_upto_region 1 with (fail)
  rw [← hw0]
  clear hw0
  go_upto_region 2 with (go_at_call 18; refine hrun.mono ?_; rintro e w1 ⟨t, ks, he, hruns, it, sy, b1⟩; obtain ⟨pt, hpt⟩ := t.ptr_shape; rw [mv_ptr hpt] at he; subst he; have H1 := hide (And.intro hpt (And.intro hruns (And.intro it (And.intro sy b1)))); clear hpt hruns it sy b1; dsimp only)
  obtain ⟨hpt, hruns, it, sy, b1⟩ := H1.out
  obtain ⟨m3, m4, hb⟩ := HM.out
  generalize hMM : madeIn [o, a, b] t = MM at *
  obtain ⟨L, hL⟩ : ∃ L : Nat, L = ks.length := ⟨_, rfl⟩
  rw [← hL]
  obtain ⟨r8, r9⟩ := new2 w1 (.cells #[.pointer pt] 29) (.cells #[.int .i64 (L : Nat), .int .i64 (L : Nat), .int .i64 (MM : Nat)] 33)
  have b2 : Below w1.heap.size w1 ((w1.alloc (.cells #[.pointer pt] 29)).alloc (.cells #[.int .i64 (L : Nat), .int .i64 (L : Nat), .int .i64 (MM : Nat)] 33)) := ((Below.refl _ w1).alloc (Nat.le_refl _) _).alloc (by simp) _
  obtain ⟨w2, hw2⟩ : ∃ w2, w2 = ((w1.alloc (.cells #[.pointer pt] 29)).alloc (.cells #[.int .i64 (L : Nat), .int .i64 (L : Nat), .int .i64 (MM : Nat)] 33)) := ⟨_, rfl⟩
  rw [← hw2] at r8 r9 b2 ⊢
  have b02 := b1.trans (b2.mono b1.size)
  have k3 := (b02.block _ (Array.getElem?_eq_some_iff.1 m3).1).trans m3
  have k4 := (b02.block _ (Array.getElem?_eq_some_iff.1 m4).1).trans m4
  have hsz : w.heap.size + 1 + 1 + 1 + 1 < w1.heap.size := Nat.lt_of_lt_of_le (Array.getElem?_eq_some_iff.1 m4).1 b1.size
  have bw2 := hb.trans (b02.mono hb.size)
  obtain ⟨u6, o6⟩ := set_one (w := w2.drew) (i := 0) (.pointer pt) k3
  obtain ⟨w6, hw6⟩ : ∃ w6, w6 = w2.drew.setCell ⟨w.heap.size + 1 + 1 + 1, 0, none⟩ (.pointer pt) := ⟨_, rfl⟩
  rw [← hw6] at u6 o6
  have k4' := (o6.block _ (Array.getElem?_eq_some_iff.1 (show w2.drew.heap[w.heap.size + 1 + 1 + 1 + 1]? = _ from k4)).1 (by omega)).trans (show w2.drew.heap[w.heap.size + 1 + 1 + 1 + 1]? = _ from k4)
  obtain ⟨u7, o7⟩ := set3 (.int .i64 (L : Nat)) (.int .i64 (L : Nat)) (.int .i64 (MM : Nat)) k4'
  obtain ⟨w7, hw7⟩ : ∃ w7, w7 = (((w6.setCell ⟨w.heap.size + 1 + 1 + 1 + 1, 0, none⟩ (.int .i64 (L : Nat))).setCell ⟨w.heap.size + 1 + 1 + 1 + 1, 1, none⟩ (.int .i64 (L : Nat))).setCell ⟨w.heap.size + 1 + 1 + 1 + 1, 2, none⟩ (.int .i64 (MM : Nat))) := ⟨_, rfl⟩
  rw [← hw7] at u7 o7
  have u6' := (o7.block _ (Array.getElem?_eq_some_iff.1 u6).1 (by omega)).trans u6
  have it7 : In w7 t := In.typed o7 (fun j e o' ho' => by subst e; rw [k4'] at ho'; cases ho'; exact ⟨_, _, _, rfl, by decide⟩) (In.aside (show w2.drew.heap[w.heap.size + 1 + 1 + 1]? = _ from k3) o6 (In.below (drew_below w2) (In.below b2 it)))
  have bl6 : Below w.heap.size w w6 := Below.only (bw2.trans ((drew_below w2).mono bw2.size)) o6 bw2.size (fun j e => by omega)
  have bl7 : Below w.heap.size w w7 := Below.only bl6 o7 bl6.size (fun j e => by omega)
  have q0 : w2.cell? ⟨w1.heap.size, 0, none⟩ = some (.pointer pt) ∧ w2.cell? ⟨w1.heap.size + 1, 0, none⟩ = some (.int .i64 (L : Nat)) ∧ w2.cell? ⟨w1.heap.size + 1, 1, none⟩ = some (.int .i64 (L : Nat)) ∧ w2.cell? ⟨w1.heap.size + 1, 2, none⟩ = some (.int .i64 (MM : Nat)) := ⟨(cell_of_row _ _ 0 _ 29 (0, 0) r8).trans rfl, (cell_of_row _ _ 0 _ 33 (0, 0) r9).trans rfl, (cell_of_row _ _ 1 _ 33 (0, 0) r9).trans rfl, (cell_of_row _ _ 2 _ 33 (0, 0) r9).trans rfl⟩
  have q6 : w6.cell? ⟨w1.heap.size, 0, none⟩ = some (.pointer pt) ∧ w6.cell? ⟨w1.heap.size + 1, 0, none⟩ = some (.int .i64 (L : Nat)) ∧ w6.cell? ⟨w1.heap.size + 1, 1, none⟩ = some (.int .i64 (L : Nat)) ∧ w6.cell? ⟨w1.heap.size + 1, 2, none⟩ = some (.int .i64 (MM : Nat)) := ⟨o6.cell (show w2.drew.cell? _ = _ from q0.1) (fun e => by simp only at e; omega), o6.cell (show w2.drew.cell? _ = _ from q0.2.1) (fun e => by simp only at e; omega), o6.cell (show w2.drew.cell? _ = _ from q0.2.2.1) (fun e => by simp only at e; omega), o6.cell (show w2.drew.cell? _ = _ from q0.2.2.2) (fun e => by simp only at e; omega)⟩
  have q7 : w7.cell? ⟨w1.heap.size, 0, none⟩ = some (.pointer pt) ∧ w7.cell? ⟨w1.heap.size + 1, 0, none⟩ = some (.int .i64 (L : Nat)) ∧ w7.cell? ⟨w1.heap.size + 1, 1, none⟩ = some (.int .i64 (L : Nat)) ∧ w7.cell? ⟨w1.heap.size + 1, 2, none⟩ = some (.int .i64 (MM : Nat)) := ⟨o7.cell q6.1 (fun e => by simp only at e; omega), o7.cell q6.2.1 (fun e => by simp only at e; omega), o7.cell q6.2.2.1 (fun e => by simp only at e; omega), o7.cell q6.2.2.2 (fun e => by simp only at e; omega)⟩
  have c4 : w2.drew.cell? ⟨w.heap.size + 1 + 1 + 1, 0, none⟩ = some (.pointer none) := (cell_of_row w2.drew _ 0 _ 29 (0, 0) k3).trans rfl
  have f4 : w2.drew.frozen? ⟨w.heap.size + 1 + 1 + 1, 0, none⟩ = false := frozen_of_row w2.drew _ 0 _ 29 k3
  have c50 : w6.cell? ⟨w.heap.size + 1 + 1 + 1 + 1, 0, none⟩ = some (.int .i64 0) := (cell_of_row _ _ 0 _ 33 (0, 0) k4').trans rfl
  have c51 : w6.cell? ⟨w.heap.size + 1 + 1 + 1 + 1, 1, none⟩ = some (.int .i64 0) := (cell_of_row _ _ 1 _ 33 (0, 0) k4').trans rfl
  have c52 : w6.cell? ⟨w.heap.size + 1 + 1 + 1 + 1, 2, none⟩ = some (.int .i64 0) := (cell_of_row _ _ 2 _ 33 (0, 0) k4').trans rfl
  have f50 : w6.frozen? ⟨w.heap.size + 1 + 1 + 1 + 1, 0, none⟩ = false := frozen_of_row _ _ 0 _ 33 k4'
  have f51 : w6.frozen? ⟨w.heap.size + 1 + 1 + 1 + 1, 1, none⟩ = false := frozen_of_row _ _ 1 _ 33 k4'
  have f52 : w6.frozen? ⟨w.heap.size + 1 + 1 + 1 + 1, 2, none⟩ = false := frozen_of_row _ _ 2 _ 33 k4'
  have HFI := hide (And.intro u6' (And.intro u7 (And.intro it7 (And.intro bl7 (And.intro hpt (And.intro (hruns.mono hb.size) (And.intro hMM (And.intro hL sy))))))))
  clear hpt hruns it sy b1 m3 m4 hb hMM hL r8 r9 b2 hw2 b02 k3 k4 bw2 u6 o6 k4' u7 o7 u6' it7 bl6 bl7 H1 HM hrun d0 d1 d2
  have qd : w2.drew.cell? ⟨w1.heap.size, 0, none⟩ = some (.pointer pt) ∧ w2.drew.cell? ⟨w1.heap.size + 1, 0, none⟩ = some (.int .i64 (L : Nat)) ∧ w2.drew.cell? ⟨w1.heap.size + 1, 1, none⟩ = some (.int .i64 (L : Nat)) ∧ w2.drew.cell? ⟨w1.heap.size + 1, 2, none⟩ = some (.int .i64 (MM : Nat)) := q0
  refine wp_region_held_drew (S := (fun w' => w'.cell? ⟨w1.heap.size, 0, none⟩ = some (.pointer pt) ∧ w'.cell? ⟨w1.heap.size + 1, 0, none⟩ = some (.int .i64 (L : Nat)) ∧ w'.cell? ⟨w1.heap.size + 1, 1, none⟩ = some (.int .i64 (L : Nat)) ∧ w'.cell? ⟨w1.heap.size + 1, 2, none⟩ = some (.int .i64 (MM : Nat)))) (by kernel_rfl) qd (fun hHeld => ?_)
  try dsimp only at hHeld
  refine take_op (i := 0) (d := 19) (OP := Op.load 29 (Operand.tmp 8)) (T := 29) (v := ?vzz1) rfl rfl rfl rfl (by kernel_rfl) (by kernel_rfl) (by kernel_rfl) (fun _ _ _ h => h) (by rfl) ?hzz1 hHeld ?rzz1
  case hzz1 => (intro w' hSw; (try dsimp only at hSw); go_simp <;> with_reducible rfl)
  try simp only [Act.put, List.setIfInBounds_toArray, List.set_cons_zero, List.set_cons_succ]
  refine take_op (i := 1) (d := 20) (OP := Op.load 33 (Operand.tmp 9)) (T := 33) (v := ?vzz2) rfl rfl rfl rfl (by kernel_rfl) (by kernel_rfl) (by kernel_rfl) (fun _ _ _ h => h) (by rfl) ?hzz2 hHeld ?rzz2
  case hzz2 => (intro w' hSw; (try dsimp only at hSw); go_simp <;> with_reducible rfl)
  try simp only [Act.put, List.setIfInBounds_toArray, List.set_cons_zero, List.set_cons_succ]
  refine skip_op (i := 2) (OP := Op.store 29 (Operand.tmp 6) (Operand.tmp 19)) (T := 0) (w' := w6) rfl rfl rfl rfl (by kernel_rfl) (by rfl) (by rw [hw6]; go_simp) ⟨q6, ?_⟩
  try simp only [Act.put, List.setIfInBounds_toArray, List.set_cons_zero, List.set_cons_succ]
  replace hHeld := q6
  clear hw6
  refine skip_op (i := 3) (OP := Op.store 33 (Operand.tmp 7) (Operand.tmp 20)) (T := 0) (w' := w7) rfl rfl rfl rfl (by kernel_rfl) (by rfl) (by rw [hw7]; go_simp) ⟨q7, ?_⟩
  try simp only [Act.put, List.setIfInBounds_toArray, List.set_cons_zero, List.set_cons_succ]
  replace hHeld := q7
  clear hw7
  refine wpAnyH_done (by kernel_rfl) ?_ _
  go_wp2
  refine ret_rr (w.heap.size + 1 + 1 + 1) (w.heap.size + 1 + 1 + 1 + 1) [.pointer pt] [.int .i64 (L : Nat), .int .i64 (L : Nat), .int .i64 (MM : Nat)] rfl rfl rfl Try.underlying29 rfl Try.underlying33 rfl Try.info29 Try.info33 HFI.out.1 HFI.out.2.1 rfl ?_
  obtain ⟨_, _, it7, bl7, hpt, hruns, hMM, hL, sy⟩ := HFI.out
  exact ⟨t, ks, by rw [mv_ptr hpt, hMM, ← hL], hruns, it7, sy, bl7⟩
end Go.Proofs.Ytckkoigghkgfdaa
