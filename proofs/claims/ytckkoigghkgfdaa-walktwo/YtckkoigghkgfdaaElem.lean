/-
  walk: THE ELEMENTS' RULE MAY BE ASKED, AND IS FAIR WHERE VALUES ARE TOLD BY THEIR KEYS.
  walk: Elements 10.
  THE LAWS' OWN SMALL FUNCTIONS: part 12, stays 15; Run 18 with no rule.
-/
import Derived.Test.YtckkoigghkgfdaaRun18
namespace Go.Proofs.Ytckkoigghkgfdaa
open Go.RowKit Go.Shelf
set_option linter.unusedSimpArgs false

/-- Values are told by their keys. -/
def Told (fv : ByteArray → Int) (k : ByteArray) (p : Int × Bool) : Prop := p = (0, false) ∨ p = (fv k, true)
theorem keeps_fair (fv : ByteArray → Int) : Fair (Told fv) (fun _ p q r => keeps p q r) := by
  refine ⟨fun k => .inl rfl, fun k p q hp hq => ?_, fun k p r hp hr => ?_, fun k p q hp hq => ?_, fun k p q r h => ?_⟩
  · rcases hp with rfl | rfl <;> rcases hq with rfl | rfl <;> simp [keeps]
  · rcases hp with rfl | rfl <;> rcases hr with rfl | rfl <;> simp [keeps]
  · rcases hp with rfl | rfl <;> rcases hq with rfl | rfl <;> simp [keeps]
  · unfold keeps at h ⊢
    split
    · rename_i h1; simp [h1] at h
    · split
      · rename_i h1 h2; simp [h1, h2] at h
      · rfl
/-- Keep may be asked. -/
theorem keep_ok (B Tk : Nat) : RuleOk (fun _ _ _ _ => True) B Tk 14 #[] (fun _ p q r => keeps p q r) (fun _ _ => True) := by
  refine ⟨fun args W => rfl, fun W ks k p q r hB _ _ _ => ?_, fun _ _ _ _ _ => trivial⟩
  refine (keep_any k p q r W).mono ?_
  rintro e w' ⟨rfl, hb⟩
  exact ⟨⟨_, rfl, fun _ => rfl⟩, trivial, Goes.of hb hB, fun _ _ ho => (hb.block _ (Array.getElem?_eq_some_iff.1 ho).1).trans ho⟩
/-- Run by the elements' rule. -/
theorem runKeep_any (fv : ByteArray → Int) (o a b : T) (w : World) (ht : Trio (Told fv) w o a b) :
    Calls Try.prog 18 #[mv o, mv a, mv b, .func (.func 14) #[] #[]] w fun e w' => ∃ t ks, e = .returned (.tuple #[mv t, .agg #[.int .i64 (ks.length : Nat), .int .i64 (ks.length : Nat), .int .i64 (madeIn [o, a, b] t : Nat)], .int .i64 0]) ∧ Runs w.heap.size (fun _ p q r => keeps p q r) o a b t ks ∧ In w' t ∧ RunSays (fun _ p q r => keeps p q r) o a b t ks ∧ Below w.heap.size w w' := by
  refine (walkRun_any (B := w.heap.size) (J := fun _ _ => True) (keeps_fair fv) o a b w [] (fun Tk _ => keep_ok _ Tk) (Nat.le_refl _) ht (fun _ _ => trivial) (by simp) trivial).mono ?_
  rintro e w' ⟨t, ks, he, hr, it, _, hb⟩
  exact ⟨t, ks, he, hr, it, hr.says (keeps_fair fv) ht.so ht.sa ht.sb ht.bo ht.ba ht.bb ht.vo ht.va ht.vb, hb⟩
end Go.Proofs.Ytckkoigghkgfdaa
namespace Go.Proofs.Ytckkoigghkgfdaa
open Go.RowKit Go.Shelf
set_option linter.unusedSimpArgs false

theorem ret_rr {P : Program} {fn : Func} {p q : Tmp} {ty ty' : TypeId} (b c : Nat) (cs ds : List Value) {R : Ending → World → Prop} {a : Act} {w : World} (h : fn.results = #[.cell p ty, .cell q ty']) (hp : a.tmps.getD p undef = .pointer (some ⟨b, 0, none⟩)) (hq : a.tmps.getD q undef = .pointer (some ⟨c, 0, none⟩))
    {d d' : TypeDesc} (hu : P.underlying ty = some d) (hd : d.isRow = true) (hu' : P.underlying ty' = some d') (hd' : d'.isRow = true) (hi : (P.info? ty).map (·.size) = some cs.length) (hi2 : (P.info? ty').map (·.size) = some ds.length) {t t2 : TypeId} {fr fr2 : Nat × Nat} (hc : w.heap[b]? = some (.cells cs.toArray t fr)) (hc2 : w.heap[c]? = some (.cells ds.toArray t2 fr2)) (hdef : a.defers = [])
    (hR : R (.returned (.tuple #[.agg cs.toArray, .agg ds.toArray])) w) : bodyPost P fn R .ret a w := by
  refine bodyPost_ret (v := .tuple #[.agg cs.toArray, .agg ds.toArray]) ?_ hdef hR
  have h1 := run_loadVar_mid (P := P) w b 0 ty cs _ (fun j v hv => by rw [cell_of_row w b (0 + j) cs.toArray t fr hc, Nat.zero_add]; simpa using hv) hu hd hi
  have h2 := run_loadVar_mid (P := P) w c 0 ty' ds _ (fun j v hv => by rw [cell_of_row w c (0 + j) ds.toArray t2 fr2 hc2, Nat.zero_add]; simpa using hv) hu' hd' hi2
  have hp' : a.tmps[p]?.getD undef = .pointer (some ⟨b, 0, none⟩) := by simpa using hp
  have hq' : a.tmps[q]?.getD undef = .pointer (some ⟨c, 0, none⟩) := by simpa using hq
  simp [results, h, hp', hq', asAddr, Sem.run_bind, Result.andThen, h1, h2]
theorem new5 (w : World) (o0 o1 o2 o3 o4 : Obj) : ∃ w0, w0 = (((((w.alloc o0).alloc o1).alloc o2).alloc o3).alloc o4) ∧ w0.heap[w.heap.size]? = some o0 ∧ w0.heap[w.heap.size + 1]? = some o1 ∧ w0.heap[w.heap.size + 1 + 1]? = some o2 ∧ w0.heap[w.heap.size + 1 + 1 + 1]? = some o3 ∧ w0.heap[w.heap.size + 1 + 1 + 1 + 1]? = some o4 ∧ Below w.heap.size w w0 := by
  refine ⟨_, rfl, ?_⟩
  obtain ⟨m0, m1, m2, m3, hb⟩ := new4 w o0 o1 o2 o3
  have hc : Below ((((w.alloc o0).alloc o1).alloc o2).alloc o3).heap.size ((((w.alloc o0).alloc o1).alloc o2).alloc o3) (((((w.alloc o0).alloc o1).alloc o2).alloc o3).alloc o4) := (Below.refl _ _).alloc (Nat.le_refl _) _
  have h4 := heap_alloc_new ((((w.alloc o0).alloc o1).alloc o2).alloc o3) o4
  rw [show ((((w.alloc o0).alloc o1).alloc o2).alloc o3).heap.size = w.heap.size + 1 + 1 + 1 + 1 from by simp] at h4
  exact ⟨(hc.block _ (Array.getElem?_eq_some_iff.1 m0).1).trans m0, (hc.block _ (Array.getElem?_eq_some_iff.1 m1).1).trans m1, (hc.block _ (Array.getElem?_eq_some_iff.1 m2).1).trans m2, (hc.block _ (Array.getElem?_eq_some_iff.1 m3).1).trans m3, h4, hb.trans (hc.mono hb.size)⟩
set_option maxHeartbeats 8000000 in
set_option maxRecDepth 100000 in
theorem elements_any (fv : ByteArray → Int) (o a b : T) (w : World) (ht : Trio (Told fv) w o a b) :
    Calls Try.prog 10 #[mv o, mv a, mv b] w fun e w' => ∃ t ks, e = .returned (.tuple #[mv t, .agg #[.int .i64 (ks.length : Nat), .int .i64 (ks.length : Nat), .int .i64 (madeIn [o, a, b] t : Nat)]]) ∧ Runs w.heap.size (fun _ p q r => keeps p q r) o a b t ks ∧ In w' t ∧ RunSays (fun _ p q r => keeps p q r) o a b t ks ∧ Below w.heap.size w w' := by
  obtain ⟨po, ho⟩ := o.ptr_shape
  obtain ⟨pa, ha⟩ := a.ptr_shape
  obtain ⟨pb, hb'⟩ := b.ptr_shape
  rw [mv_ptr ho, mv_ptr ha, mv_ptr hb']
  obtain ⟨w0, hw0, m0, m1, m2, m3, m4, hb⟩ := new5 w (.cells #[.pointer po] 29) (.cells #[.pointer pa] 29) (.cells #[.pointer pb] 29) (.cells #[.pointer none] 29) (.cells #[.int .i64 0, .int .i64 0, .int .i64 0] 33)
  have hrun := runKeep_any fv o a b w0 (ht.goes (Goes.of (B := 0) (Tk := 0) hb (Nat.zero_le _)))
  rw [mv_ptr ho, mv_ptr ha, mv_ptr hb'] at hrun
  have d0 : w0.cell? ⟨w.heap.size, 0, none⟩ = some (.pointer po) := (cell_of_row _ _ 0 _ 29 (0, 0) m0).trans rfl
  have d1 : w0.cell? ⟨w.heap.size + 1, 0, none⟩ = some (.pointer pa) := (cell_of_row _ _ 0 _ 29 (0, 0) m1).trans rfl
  have d2 : w0.cell? ⟨w.heap.size + 1 + 1, 0, none⟩ = some (.pointer pb) := (cell_of_row _ _ 0 _ 29 (0, 0) m2).trans rfl
  have HM := hide (And.intro m3 (And.intro m4 hb))
  clear m0 m1 m2 m3 m4 hb ho ha hb' ht
  go_enter Try.func10, Try.ntmps10
  go_upto_region 1 with (fail)
  rw [← hw0]
  clear hw0
  go_upto_region 2 with (go_at_call 18; refine hrun.mono ?_; rintro e w1 ⟨t, ks, he, hruns, it, sy, b1⟩; obtain ⟨pt, hpt⟩ := t.ptr_shape; rw [mv_ptr hpt] at he; subst he; have H1 := hide (And.intro hpt (And.intro hruns (And.intro it (And.intro sy b1)))); clear hpt hruns it sy b1; dsimp only)
  obtain ⟨hpt, hruns, it, sy, b1⟩ := H1.out
  obtain ⟨m3, m4, hb⟩ := HM.out
  generalize hMM : madeIn [o, a, b] t = MM at *
  obtain ⟨L, hL⟩ : ∃ L : Nat, L = ks.length := ⟨_, rfl⟩
  rw [← hL]
  obtain ⟨r8, r9⟩ := new2 w1 (.cells #[.pointer pt] 29) (.cells #[.int .i64 (L : Nat), .int .i64 (L : Nat), .int .i64 (MM : Nat)] 33)
  have b2 : Below w1.heap.size w1 ((w1.alloc (.cells #[.pointer pt] 29)).alloc (.cells #[.int .i64 (L : Nat), .int .i64 (L : Nat), .int .i64 (MM : Nat)] 33)) := ((Below.refl _ w1).alloc (Nat.le_refl _) _).alloc (by simp) _
  obtain ⟨w2, hw2⟩ : ∃ w2, w2 = ((w1.alloc (.cells #[.pointer pt] 29)).alloc (.cells #[.int .i64 (L : Nat), .int .i64 (L : Nat), .int .i64 (MM : Nat)] 33)) := ⟨_, rfl⟩
  rw [← hw2] at r8 r9 b2 ⊢
  have b02 := b1.trans (b2.mono b1.size)
  have k3 := (b02.block _ (Array.getElem?_eq_some_iff.1 m3).1).trans m3
  have k4 := (b02.block _ (Array.getElem?_eq_some_iff.1 m4).1).trans m4
  have hsz : w.heap.size + 1 + 1 + 1 + 1 < w1.heap.size := Nat.lt_of_lt_of_le (Array.getElem?_eq_some_iff.1 m4).1 b1.size
  have bw2 := hb.trans (b02.mono hb.size)
  obtain ⟨u6, o6⟩ := set_one (w := w2.drew) (i := 0) (.pointer pt) k3
  obtain ⟨w6, hw6⟩ : ∃ w6, w6 = w2.drew.setCell ⟨w.heap.size + 1 + 1 + 1, 0, none⟩ (.pointer pt) := ⟨_, rfl⟩
  rw [← hw6] at u6 o6
  have k4' := (o6.block _ (Array.getElem?_eq_some_iff.1 (show w2.drew.heap[w.heap.size + 1 + 1 + 1 + 1]? = _ from k4)).1 (by omega)).trans (show w2.drew.heap[w.heap.size + 1 + 1 + 1 + 1]? = _ from k4)
  obtain ⟨u7, o7⟩ := set3 (.int .i64 (L : Nat)) (.int .i64 (L : Nat)) (.int .i64 (MM : Nat)) k4'
  obtain ⟨w7, hw7⟩ : ∃ w7, w7 = (((w6.setCell ⟨w.heap.size + 1 + 1 + 1 + 1, 0, none⟩ (.int .i64 (L : Nat))).setCell ⟨w.heap.size + 1 + 1 + 1 + 1, 1, none⟩ (.int .i64 (L : Nat))).setCell ⟨w.heap.size + 1 + 1 + 1 + 1, 2, none⟩ (.int .i64 (MM : Nat))) := ⟨_, rfl⟩
  rw [← hw7] at u7 o7
  have u6' := (o7.block _ (Array.getElem?_eq_some_iff.1 u6).1 (by omega)).trans u6
  have it7 : In w7 t := In.typed o7 (fun j e o' ho' => by subst e; rw [k4'] at ho'; cases ho'; exact ⟨_, _, _, rfl, by decide⟩) (In.aside (show w2.drew.heap[w.heap.size + 1 + 1 + 1]? = _ from k3) o6 (In.below (drew_below w2) (In.below b2 it)))
  have bl6 : Below w.heap.size w w6 := Below.only (bw2.trans ((drew_below w2).mono bw2.size)) o6 bw2.size (fun j e => by omega)
  have bl7 : Below w.heap.size w w7 := Below.only bl6 o7 bl6.size (fun j e => by omega)
  have q0 : w2.cell? ⟨w1.heap.size, 0, none⟩ = some (.pointer pt) ∧ w2.cell? ⟨w1.heap.size + 1, 0, none⟩ = some (.int .i64 (L : Nat)) ∧ w2.cell? ⟨w1.heap.size + 1, 1, none⟩ = some (.int .i64 (L : Nat)) ∧ w2.cell? ⟨w1.heap.size + 1, 2, none⟩ = some (.int .i64 (MM : Nat)) := ⟨(cell_of_row _ _ 0 _ 29 (0, 0) r8).trans rfl, (cell_of_row _ _ 0 _ 33 (0, 0) r9).trans rfl, (cell_of_row _ _ 1 _ 33 (0, 0) r9).trans rfl, (cell_of_row _ _ 2 _ 33 (0, 0) r9).trans rfl⟩
  have q6 : w6.cell? ⟨w1.heap.size, 0, none⟩ = some (.pointer pt) ∧ w6.cell? ⟨w1.heap.size + 1, 0, none⟩ = some (.int .i64 (L : Nat)) ∧ w6.cell? ⟨w1.heap.size + 1, 1, none⟩ = some (.int .i64 (L : Nat)) ∧ w6.cell? ⟨w1.heap.size + 1, 2, none⟩ = some (.int .i64 (MM : Nat)) := ⟨o6.cell (show w2.drew.cell? _ = _ from q0.1) (fun e => by simp only at e; omega), o6.cell (show w2.drew.cell? _ = _ from q0.2.1) (fun e => by simp only at e; omega), o6.cell (show w2.drew.cell? _ = _ from q0.2.2.1) (fun e => by simp only at e; omega), o6.cell (show w2.drew.cell? _ = _ from q0.2.2.2) (fun e => by simp only at e; omega)⟩
  have q7 : w7.cell? ⟨w1.heap.size, 0, none⟩ = some (.pointer pt) ∧ w7.cell? ⟨w1.heap.size + 1, 0, none⟩ = some (.int .i64 (L : Nat)) ∧ w7.cell? ⟨w1.heap.size + 1, 1, none⟩ = some (.int .i64 (L : Nat)) ∧ w7.cell? ⟨w1.heap.size + 1, 2, none⟩ = some (.int .i64 (MM : Nat)) := ⟨o7.cell q6.1 (fun e => by simp only at e; omega), o7.cell q6.2.1 (fun e => by simp only at e; omega), o7.cell q6.2.2.1 (fun e => by simp only at e; omega), o7.cell q6.2.2.2 (fun e => by simp only at e; omega)⟩
  have c4 : w2.drew.cell? ⟨w.heap.size + 1 + 1 + 1, 0, none⟩ = some (.pointer none) := (cell_of_row w2.drew _ 0 _ 29 (0, 0) k3).trans rfl
  have f4 : w2.drew.frozen? ⟨w.heap.size + 1 + 1 + 1, 0, none⟩ = false := frozen_of_row w2.drew _ 0 _ 29 k3
  have c50 : w6.cell? ⟨w.heap.size + 1 + 1 + 1 + 1, 0, none⟩ = some (.int .i64 0) := (cell_of_row _ _ 0 _ 33 (0, 0) k4').trans rfl
  have c51 : w6.cell? ⟨w.heap.size + 1 + 1 + 1 + 1, 1, none⟩ = some (.int .i64 0) := (cell_of_row _ _ 1 _ 33 (0, 0) k4').trans rfl
  have c52 : w6.cell? ⟨w.heap.size + 1 + 1 + 1 + 1, 2, none⟩ = some (.int .i64 0) := (cell_of_row _ _ 2 _ 33 (0, 0) k4').trans rfl
  have f50 : w6.frozen? ⟨w.heap.size + 1 + 1 + 1 + 1, 0, none⟩ = false := frozen_of_row _ _ 0 _ 33 k4'
  have f51 : w6.frozen? ⟨w.heap.size + 1 + 1 + 1 + 1, 1, none⟩ = false := frozen_of_row _ _ 1 _ 33 k4'
  have f52 : w6.frozen? ⟨w.heap.size + 1 + 1 + 1 + 1, 2, none⟩ = false := frozen_of_row _ _ 2 _ 33 k4'
  have HFI := hide (And.intro u6' (And.intro u7 (And.intro it7 (And.intro bl7 (And.intro hpt (And.intro (hruns.mono hb.size) (And.intro hMM (And.intro hL sy))))))))
  clear hpt hruns it sy b1 m3 m4 hb hMM hL r8 r9 b2 hw2 b02 k3 k4 bw2 u6 o6 k4' u7 o7 u6' it7 bl6 bl7 H1 HM hrun d0 d1 d2
  have qd : w2.drew.cell? ⟨w1.heap.size, 0, none⟩ = some (.pointer pt) ∧ w2.drew.cell? ⟨w1.heap.size + 1, 0, none⟩ = some (.int .i64 (L : Nat)) ∧ w2.drew.cell? ⟨w1.heap.size + 1, 1, none⟩ = some (.int .i64 (L : Nat)) ∧ w2.drew.cell? ⟨w1.heap.size + 1, 2, none⟩ = some (.int .i64 (MM : Nat)) := q0
  refine wp_region_held_drew (S := (fun w' => w'.cell? ⟨w1.heap.size, 0, none⟩ = some (.pointer pt) ∧ w'.cell? ⟨w1.heap.size + 1, 0, none⟩ = some (.int .i64 (L : Nat)) ∧ w'.cell? ⟨w1.heap.size + 1, 1, none⟩ = some (.int .i64 (L : Nat)) ∧ w'.cell? ⟨w1.heap.size + 1, 2, none⟩ = some (.int .i64 (MM : Nat)))) (by kernel_rfl) qd (fun hHeld => ?_)
  try dsimp only at hHeld
  refine take_op (i := 0) (d := 19) (OP := Op.load 29 (Operand.tmp 8)) (T := 29) (v := ?vzz1) rfl rfl rfl rfl (by kernel_rfl) (by kernel_rfl) (by kernel_rfl) (fun _ _ _ h => h) (by rfl) ?hzz1 hHeld ?rzz1
  case hzz1 => (intro w' hSw; (try dsimp only at hSw); go_simp <;> with_reducible rfl)
  try simp only [Act.put, List.setIfInBounds_toArray, List.set_cons_zero, List.set_cons_succ]
  refine take_op (i := 1) (d := 20) (OP := Op.load 33 (Operand.tmp 9)) (T := 33) (v := ?vzz2) rfl rfl rfl rfl (by kernel_rfl) (by kernel_rfl) (by kernel_rfl) (fun _ _ _ h => h) (by rfl) ?hzz2 hHeld ?rzz2
  case hzz2 => (intro w' hSw; (try dsimp only at hSw); go_simp <;> with_reducible rfl)
  try simp only [Act.put, List.setIfInBounds_toArray, List.set_cons_zero, List.set_cons_succ]
  refine skip_op (i := 2) (OP := Op.store 29 (Operand.tmp 6) (Operand.tmp 19)) (T := 0) (w' := w6) rfl rfl rfl rfl (by kernel_rfl) (by rfl) (by rw [hw6]; go_simp) ⟨q6, ?_⟩
  try simp only [Act.put, List.setIfInBounds_toArray, List.set_cons_zero, List.set_cons_succ]
  replace hHeld := q6
  clear hw6
  refine skip_op (i := 3) (OP := Op.store 33 (Operand.tmp 7) (Operand.tmp 20)) (T := 0) (w' := w7) rfl rfl rfl rfl (by kernel_rfl) (by rfl) (by rw [hw7]; go_simp) ⟨q7, ?_⟩
  try simp only [Act.put, List.setIfInBounds_toArray, List.set_cons_zero, List.set_cons_succ]
  replace hHeld := q7
  clear hw7
  refine wpAnyH_done (by kernel_rfl) ?_ _
  go_wp2
  refine ret_rr (w.heap.size + 1 + 1 + 1) (w.heap.size + 1 + 1 + 1 + 1) [.pointer pt] [.int .i64 (L : Nat), .int .i64 (L : Nat), .int .i64 (MM : Nat)] rfl rfl rfl Try.underlying29 rfl Try.underlying33 rfl Try.info29 Try.info33 HFI.out.1 HFI.out.2.1 rfl ?_
  obtain ⟨_, _, it7, bl7, hpt, hruns, hMM, hL, sy⟩ := HFI.out
  exact ⟨t, ks, by rw [mv_ptr hpt, hMM, ← hL], hruns, it7, sy, bl7⟩
end Go.Proofs.Ytckkoigghkgfdaa
namespace Go.Proofs.Ytckkoigghkgfdaa
open Go.RowKit Go.Shelf
set_option linter.unusedSimpArgs false

theorem Try.info38 : (Try.prog.info? 38).map (·.size) = some 2 := by kernel_rfl
theorem set2 {w : World} {B : Nat} {x0 x1 : Value} {ty : TypeId} (a b : Value) (h : w.heap[B]? = some (.cells #[x0, x1] ty (0, 0))) : ((w.setCell ⟨B, 0, none⟩ a).setCell ⟨B, 1, none⟩ b).heap[B]? = some (.cells #[a, b] ty (0, 0)) ∧ Only (fun j => j = B) w ((w.setCell ⟨B, 0, none⟩ a).setCell ⟨B, 1, none⟩ b) := by
  obtain ⟨h1, o1⟩ := set_one (i := 0) a h
  obtain ⟨h2, o2⟩ := set_one (i := 1) b h1
  exact ⟨by simpa using h2, o1.trans o2 (fun _ _ e => e)⟩
set_option maxHeartbeats 2000000 in
theorem part_any (t : T) (k : ByteArray) (w : World) (it : In w t) (hs : Srt t.list) : Calls Try.prog 12 #[mv t, .string k] w fun e w' => e = .returned (pv (look k t.list)) ∧ Below w.heap.size w w' := by
  obtain ⟨x, hx⟩ := t.ptr_shape
  rw [mv_ptr hx, ← find_look t k hs]
  obtain ⟨n0, n1⟩ := new2 w (.cells #[.pointer x] 29) (.cells #[.int .i64 0, .bool false] 38)
  have hb : Below w.heap.size w ((w.alloc (.cells #[.pointer x] 29)).alloc (.cells #[.int .i64 0, .bool false] 38)) := ((Below.refl _ w).alloc (Nat.le_refl _) _).alloc (by simp) _
  have hg := get_any t k _ (In.below hb it)
  rw [mv_ptr hx] at hg
  unfold pv
  dsimp only
  generalize (t.find k).val = VV at *
  generalize (t.find k).isSome = BB at *
  have HN := hide (And.intro n1 hb)
  clear n0 n1 hb it hs hx
  go_enter Try.func12, Try.ntmps12
  go_upto_region 2 with (go_at_call 13; refine hg.mono ?_; rintro e w1 ⟨rfl, b1⟩; dsimp only)
  have h1 := (b1.block (w.heap.size + 1) (by simp)).trans HN.out.1
  have bw := HN.out.2.trans (b1.mono HN.out.2.size)
  obtain ⟨u, o⟩ := set2 (.int .i64 VV) (.bool BB) h1
  have c0 : w1.cell? ⟨w.heap.size + 1, 0, none⟩ = some (.int .i64 0) := (cell_of_row _ _ 0 _ 38 (0, 0) h1).trans rfl
  have c1 : w1.cell? ⟨w.heap.size + 1, 1, none⟩ = some (.bool false) := (cell_of_row _ _ 1 _ 38 (0, 0) h1).trans rfl
  have f0 : w1.frozen? ⟨w.heap.size + 1, 0, none⟩ = false := frozen_of_row _ _ 0 _ 38 h1
  have f1 : w1.frozen? ⟨w.heap.size + 1, 1, none⟩ = false := frozen_of_row _ _ 1 _ 38 h1
  have HU := hide (And.intro u (Below.only bw o bw.size (fun j e => by omega)))
  clear h1 bw u o b1 hg HN
  go_wp2
  refine ret_row (w.heap.size + 1) [.int .i64 VV, .bool BB] rfl rfl Try.underlying38 rfl Try.info38 HU.out.1 rfl ?_
  exact ⟨rfl, HU.out.2⟩
set_option maxHeartbeats 2000000 in
theorem stays_any (p q r : Int × Bool) (w : World) : Calls Try.prog 15 #[pv p, pv q, pv r] w fun e w' => e = .returned (.bool (keeps p q r).2) ∧ Below w.heap.size w w' := by
  obtain ⟨p1, p2⟩ := p
  obtain ⟨q1, q2⟩ := q
  obtain ⟨r1, r2⟩ := r
  have hb : Below w.heap.size w (((w.alloc (.cells #[.int .i64 p1, .bool p2] 38)).alloc (.cells #[.int .i64 q1, .bool q2] 38)).alloc (.cells #[.int .i64 r1, .bool r2] 38)) := (new3 w _ _ _).2.2.2
  unfold pv
  have HB := hide hb
  clear hb
  cases p2 <;> cases q2 <;> cases r2 <;> (go_enter Try.func15, Try.ntmps15; go_wp2; go_ret; exact ⟨rfl, HB.out⟩)
set_option maxHeartbeats 2000000 in
set_option maxRecDepth 100000 in
/-- Run with no rule. -/
theorem run_nil (o a b : T) (w : World) : Calls Try.prog 18 #[mv o, mv a, mv b, .nilFunc] w fun e w' => e = .returned (.tuple #[mv .nil, .agg #[.int .i64 0, .int .i64 0, .int .i64 0], .int .i64 1]) ∧ Below w.heap.size w w' := by
  obtain ⟨po, ho⟩ := o.ptr_shape
  obtain ⟨pa, ha⟩ := a.ptr_shape
  obtain ⟨pb, hb'⟩ := b.ptr_shape
  rw [mv_ptr ho, mv_ptr ha, mv_ptr hb']
  obtain ⟨w5, hw5, m0, m1, m2, m3, m4, hb⟩ := new5 w (.cells #[.pointer po] 29) (.cells #[.pointer pa] 29) (.cells #[.pointer pb] 29) (.cells #[.nilFunc] 42) (.cells #[.pointer none] 29)
  have bc : Below w5.heap.size w5 (w5.alloc (.cells #[.int .i64 0, .int .i64 0, .int .i64 0] 33)) := (Below.refl _ _).alloc (Nat.le_refl _) _
  have hs5 : w5.heap.size = w.heap.size + 1 + 1 + 1 + 1 + 1 := by rw [hw5]; simp
  have m5 := heap_alloc_new w5 (.cells #[.int .i64 0, .int .i64 0, .int .i64 0] 33)
  rw [hs5] at m5
  have m4' := (bc.block _ (Array.getElem?_eq_some_iff.1 m4).1).trans m4
  obtain ⟨w0, hw0⟩ : ∃ w0, w0 = w5.alloc (.cells #[.int .i64 0, .int .i64 0, .int .i64 0] 33) := ⟨_, rfl⟩
  rw [← hw0] at m5 m4' bc
  have HM := hide (And.intro m4' (And.intro m5 (hb.trans (bc.mono hb.size))))
  have hnil : ∀ W, (binOp .eql 42 .nilFunc .nilFunc).run Try.prog W = .ok (.bool true) W := fun W => by first | rfl | kernel_rfl | simp [binOp, go_sem]
  rw [hw5] at hw0
  clear m0 m1 m2 m3 m4 hb hs5 m5 m4' bc hw5 ho ha hb'
  go_enter Try.func18, Try.ntmps18
  go_wp2
  rw [← hw0]
  refine ret_rr_t (w.heap.size + 1 + 1 + 1 + 1) (w.heap.size + 1 + 1 + 1 + 1 + 1) [.pointer none] [.int .i64 0, .int .i64 0, .int .i64 0] rfl rfl rfl rfl Try.underlying29 rfl Try.underlying33 rfl Try.info29 Try.info33 HM.out.1 HM.out.2.1 rfl ?_
  exact ⟨rfl, HM.out.2.2⟩
end Go.Proofs.Ytckkoigghkgfdaa
