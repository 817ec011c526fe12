/-
  walk: closed 35: BOTH SIDES WITHOUT A KEY BETWEEN THEM.
-/
import Derived.Test.YtckkoigghkgfdaaCut
namespace Go.Proofs.Ytckkoigghkgfdaa
open Go.RowKit Go.Shelf
set_option linter.unusedSimpArgs false

theorem In.underP {w : World} : ∀ {t : T}, In w t → t.under w.heap.size
  | .nil, _ => trivial
  | .node _ _ _ _ _, h => ⟨h.lt, In.underP h.2.1, In.underP h.2.2⟩
/-- What closed makes. -/
def Closes (B : Nat) (l r t : T) : Prop := (r = .nil ∧ t = l) ∨ (r ≠ .nil ∧ ∃ r' t0, Takes B r.first.key r r' ∧ Joined B r.first.key r.first.val l r' t0 ∧ t = t0)
theorem Closes.list {B : Nat} {l r t : T} (h : Closes B l r t) (hr : Srt r.list) : t.list = l.list ++ r.list := by
  rcases h with ⟨rfl, rfl⟩ | ⟨hn, r', t0, ht, hj, rfl⟩
  · simp [T.list]
  · obtain ⟨_, fk, fv, _, frest, f1, f2, _⟩ := T.first_spec hn
    rw [hj.list, ht.list hr]
    have e1 : r.first.key = fk := by rw [f1]; rfl
    have e2 : r.first.val = fv := by rw [f1]; rfl
    rw [e1, e2, f2]
    congr 1
    have hp : pos fk ((fk, fv) :: frest) = 0 := by simp [pos, ord_B.refl]
    have hh : has fk ((fk, fv) :: frest) = true := by unfold has; rw [hp]; simp
    unfold del
    rw [hh, hp]
    simp
theorem Closes.fits {l r r' : T} {B : Nat} (hn : r ≠ .nil) (hs : Srt (l.list ++ r.list)) (ht : Takes B r.first.key r r') : fitsB l r.first.key r' = true := by
  obtain ⟨_, fk, fv, _, frest, f1, f2, _⟩ := T.first_spec hn
  have e1 : r.first.key = fk := by rw [f1]; rfl
  rw [e1] at ht ⊢
  rw [f2] at hs
  obtain ⟨s1, s2, s3, s4⟩ := Srt.app.1 hs
  have hr : Srt r.list := by rw [f2]; exact (List.pairwise_append.1 hs).2.1
  have hl : r'.list = frest := by
    rw [ht.list hr, f2]
    have hp : pos fk ((fk, fv) :: frest) = 0 := by simp [pos, ord_B.refl]
    have hh : has fk ((fk, fv) :: frest) = true := by unfold has; rw [hp]; simp
    unfold del
    rw [hh, hp]
    simp
  exact (fits_is s1 (by rw [hl]; exact s2)).2 ⟨s3, by rw [hl]; exact s4⟩
set_option maxHeartbeats 4000000 in
theorem closed_any (l r : T) (w : World) (hl : In w l) (hr : In w r) (hs : Srt (l.list ++ r.list)) (hn : l.n + r.n ≤ 700000) : Calls Try.prog 35 #[mv l, mv r] w fun e w' => ∃ t, e = .returned (mv t) ∧ Closes w.heap.size l r t ∧ (l.bal → r.bal → t.bal) ∧ In w' t ∧ Below w.heap.size w w' := by
  have hsr : Srt r.list := (List.pairwise_append.1 hs).2.1
  obtain ⟨m0, m1, m2, hb⟩ := new3 w (.cells #[l.ptr] 29) (.cells #[r.ptr] 29) (.cells #[.pointer none] 29)
  have hf := mFirst_any r _ (In.below hb hr)
  by_cases hrn : r = .nil
  · subst hrn
    obtain ⟨x, hx⟩ := l.ptr_shape
    unfold mv at hf ⊢
    rw [hx] at hf hb m0 m1 m2 ⊢
    simp only [T.ptr, T.first, T.key, T.val, T.isSome] at hf hb m0 m1 m2 ⊢
    have HH := hide (And.intro hl (And.intro hb (And.intro m0 m2)))
    clear hl hr hs hn hb m0 m1 m2
    go_enter Try.func35, Try.ntmps35
    go_upto_region 3 with (go_at_call 54; refine hf.mono ?_; rintro e w1 ⟨rfl, b1⟩; dsimp only)
    obtain ⟨hl, hb, m0, m2⟩ := HH.out
    have h0 := (b1.block w.heap.size (by simp; omega)).trans m0
    have h2 := (b1.block (w.heap.size + 1 + 1) (by simp)).trans m2
    have c0 : w1.cell? ⟨w.heap.size, 0, none⟩ = some (.pointer x) := (cell_of_row _ _ 0 _ 29 (0, 0) h0).trans rfl
    have c2 : w1.cell? ⟨w.heap.size + 1 + 1, 0, none⟩ = some (.pointer none) := (cell_of_row _ _ 0 _ 29 (0, 0) h2).trans rfl
    have f2 : w1.frozen? ⟨w.heap.size + 1 + 1, 0, none⟩ = false := frozen_of_row _ _ 0 _ 29 h2
    have bw := hb.trans (b1.mono hb.size)
    obtain ⟨o1, o2, o3⟩ := out_box (y := .pointer x) h2 (by omega) bw
    have HO := hide (And.intro o1 (And.intro o2 (In.aside h2 o3 (In.below bw hl))))
    clear hl hb m0 m2 h0 h2 bw o1 o2 o3 b1 HH hf
    go_wp2
    refine ret_row (w.heap.size + 1 + 1) [.pointer x] rfl rfl Try.underlying29 rfl Try.info29 HO.out.1 rfl ?_
    exact ⟨l, congrArg (fun v => Ending.returned (Value.agg #[v])) hx.symm, .inl ⟨rfl, rfl⟩, fun h _ => h, HO.out.2.2, HO.out.2.1⟩
  · obtain ⟨x, hx⟩ := l.ptr_shape
    obtain ⟨y, hy⟩ := r.ptr_shape
    obtain ⟨_, _, _, _, _, fe, _⟩ := T.first_spec hrn
    have hsome : r.first.isSome = true := by rw [fe]; rfl
    have tk : ∀ W w1 : World, Below w1.heap.size w1 W → Below w.heap.size w w1 → Calls Try.prog 24 #[.agg #[.pointer y], .string r.first.key] W fun e w' => ∃ t' p', e = .returned (.agg #[.pointer p']) ∧ t'.ptr = .pointer p' ∧ In w' t' ∧ Takes w.heap.size r.first.key r t' ∧ (r.bal → t'.bal) ∧ Below W.heap.size W w' := fun W w1 hW hw1 => by
      have bW := hw1.trans (hW.mono hw1.size)
      have := mTake_any r r.first.key W (In.below bW hr) (by omega)
      rw [mv_ptr hy] at this
      refine this.mono ?_
      rintro e w' ⟨t', he, i1, ht, b1⟩
      obtain ⟨p', hp'⟩ := t'.ptr_shape
      exact ⟨t', p', by rw [he, mv_ptr hp'], hp', i1, ht.mono bW.size, fun hbal => (ht.says hsr hbal (In.underP (In.below bW hr))).bal, b1⟩
    have jn : ∀ (W w1 : World) (t' : T) (p' : Option Addr), Below w1.heap.size w1 W → Below w.heap.size w w1 → t'.ptr = .pointer p' → In W t' → Takes w.heap.size r.first.key r t' → Calls Try.prog 34 #[.agg #[.pointer x], .string r.first.key, .int .i64 r.first.val, .agg #[.pointer p']] W fun e w' => ∃ z pz, e = .returned (.agg #[.pointer pz]) ∧ z.ptr = .pointer pz ∧ Joined w.heap.size r.first.key r.first.val l t' z ∧ In w' z ∧ Below W.heap.size W w' := fun W w1 t' p' hW hw1 hp' it ht => by
      have bW := hw1.trans (hW.mono hw1.size)
      have hln : l.n + t'.n ≤ 700000 := by have := ht.n; omega
      have := joined_any l t' r.first.key r.first.val W (In.below bW hl) it (Closes.fits hrn hs ht) hln
      rw [mv_ptr hx, mv_ptr hp'] at this
      refine this.mono ?_
      rintro e w' ⟨z, he, hj, iz, b1⟩
      obtain ⟨pz, hpz⟩ := z.ptr_shape
      exact ⟨z, pz, by rw [he, mv_ptr hpz], hpz, hj.mono bW.size, iz, b1⟩
    rw [hsome] at hf
    unfold mv at hf ⊢
    rw [hx, hy] at hf hb m0 m1 m2 ⊢
    generalize hk : r.first.key = k at *
    generalize hv : r.first.val = v at *
    have HKV := hide (And.intro hk hv)
    clear hk hv
    have HH := hide (And.intro hb (And.intro m0 (And.intro m1 (And.intro m2 (And.intro tk jn)))))
    have HXY := hide (And.intro hx hrn)
    clear hl hr hs hn hb m0 m1 m2 tk jn hx hy hrn fe hsome hsr
    go_enter Try.func35, Try.ntmps35
    go_upto_region 4 with (go_at_call 54; refine hf.mono ?_; rintro e w1 ⟨rfl, b1⟩; dsimp only)
    obtain ⟨hb, m0, m1, m2, tk, jn⟩ := HH.out
    have h0 := (b1.block w.heap.size (by simp; omega)).trans m0
    have h1 := (b1.block (w.heap.size + 1) (by simp)).trans m1
    have HR := hide ((b1.block (w.heap.size + 1 + 1) (by simp)).trans m2)
    have c0 : w1.cell? ⟨w.heap.size, 0, none⟩ = some (.pointer x) := (cell_of_row _ _ 0 _ 29 (0, 0) h0).trans rfl
    have c1 : w1.cell? ⟨w.heap.size + 1, 0, none⟩ = some (.pointer y) := (cell_of_row _ _ 0 _ 29 (0, 0) h1).trans rfl
    have bw := hb.trans (b1.mono hb.size)
    have HJ := hide (fun (W : World) (t' : T) (p' : Option Addr) (hW : Below w1.heap.size w1 W) => jn W w1 t' p' hW bw)
    have tk := fun (W : World) (hW : Below w1.heap.size w1 W) => tk W w1 hW bw
    have q0 : w1.cell? ⟨w.heap.size, 0, none⟩ = some (.pointer x) ∧ w1.cell? ⟨w.heap.size + 1, 0, none⟩ = some (.pointer y) ∧ Hid (Below w.heap.size w w1) := ⟨c0, c1, hide bw⟩
    clear hb m0 m1 m2 jn h0 h1 b1 c0 c1 HH hf bw
    have qd : w1.drew.cell? ⟨w.heap.size, 0, none⟩ = some (.pointer x) ∧ w1.drew.cell? ⟨w.heap.size + 1, 0, none⟩ = some (.pointer y) ∧ Hid (Below w.heap.size w w1.drew) := ⟨q0.1, q0.2.1, hide (q0.2.2.out.trans ((drew_below w1).mono q0.2.2.out.size))⟩
    refine wp_region_held_drew (S := (fun w' => w'.cell? ⟨w.heap.size, 0, none⟩ = some (.pointer x) ∧ w'.cell? ⟨w.heap.size + 1, 0, none⟩ = some (.pointer y) ∧ Hid (Below w.heap.size w w'))) (by kernel_rfl) qd (fun hHeld => ?_)
    try dsimp only at hHeld
    refine take_op (i := 0) (d := 17) (OP := Op.load 29 (Operand.tmp 2)) (T := 29) (v := ?vzz1) rfl rfl rfl rfl (by kernel_rfl) (by kernel_rfl) (by kernel_rfl) (fun _ _ _ h => h) (by rfl) ?hzz1 hHeld ?rzz1
    case hzz1 => (intro w' hSw; (try dsimp only at hSw); go_simp <;> with_reducible rfl)
    try simp only [Act.put, List.setIfInBounds_toArray, List.set_cons_zero, List.set_cons_succ]
    refine take_op (i := 1) (d := 18) (OP := Op.move (Operand.tmp 5)) (T := 9) (v := ?vzz2) rfl rfl rfl rfl (by kernel_rfl) (by kernel_rfl) (by kernel_rfl) (fun _ _ _ h => h) (by rfl) ?hzz2 hHeld ?rzz2
    case hzz2 => (intro w' hSw; (try dsimp only at hSw); go_simp <;> with_reducible rfl)
    try simp only [Act.put, List.setIfInBounds_toArray, List.set_cons_zero, List.set_cons_succ]
    refine take_op (i := 2) (d := 19) (OP := Op.move (Operand.tmp 6)) (T := 3) (v := ?vzz3) rfl rfl rfl rfl (by kernel_rfl) (by kernel_rfl) (by kernel_rfl) (fun _ _ _ h => h) (by rfl) ?hzz3 hHeld ?rzz3
    case hzz3 => (intro w' hSw; (try dsimp only at hSw); go_simp <;> with_reducible rfl)
    try simp only [Act.put, List.setIfInBounds_toArray, List.set_cons_zero, List.set_cons_succ]
    refine take_op (i := 3) (d := 20) (OP := Op.load 29 (Operand.tmp 3)) (T := 29) (v := ?vzz4) rfl rfl rfl rfl (by kernel_rfl) (by kernel_rfl) (by kernel_rfl) (fun _ _ _ h => h) (by rfl) ?hzz4 hHeld ?rzz4
    case hzz4 => (intro w' hSw; (try dsimp only at hSw); go_simp <;> with_reducible rfl)
    try simp only [Act.put, List.setIfInBounds_toArray, List.set_cons_zero, List.set_cons_succ]
    refine take_op (i := 4) (d := 21) (OP := Op.move (Operand.tmp 5)) (T := 9) (v := ?vzz5) rfl rfl rfl rfl (by kernel_rfl) (by kernel_rfl) (by kernel_rfl) (fun _ _ _ h => h) (by rfl) ?hzz5 hHeld ?rzz5
    case hzz5 => (intro w' hSw; (try dsimp only at hSw); go_simp <;> with_reducible rfl)
    try simp only [Act.put, List.setIfInBounds_toArray, List.set_cons_zero, List.set_cons_succ]
    refine call_op (i := 5) (d := 22) (OP := Op.call { callee := Callee.value (Operand.func 24), args := #[Operand.tmp 20, Operand.tmp 21], argTypes := #[29, 9] }) (T := 29) (f := 24) (args := #[.agg #[.pointer y], .string k]) rfl rfl rfl rfl (by kernel_rfl) (by rfl) (by go_simp) ?_
    refine (tk _ (drew_below w1)).mono ?_
    rintro e w2 ⟨t', p', rfl, hp', i2, ht, tb', b2⟩
    have bd2 : Below w1.heap.size w1 w2 := (drew_below w1).trans (b2.mono (drew_below w1).size)
    have qw2 : w2.cell? ⟨w.heap.size, 0, none⟩ = some (.pointer x) ∧ w2.cell? ⟨w.heap.size + 1, 0, none⟩ = some (.pointer y) ∧ Hid (Below w.heap.size w w2) := ⟨cell_stays qd.1 b2, cell_stays qd.2.1 b2, hide (qd.2.2.out.trans (b2.mono qd.2.2.out.size))⟩
    refine ⟨_, rfl, qw2, ?_⟩
    replace hHeld := qw2
    try simp only [Act.put, List.setIfInBounds_toArray, List.set_cons_zero, List.set_cons_succ]
    refine call_op (i := 6) (d := 23) (OP := Op.call { callee := Callee.value (Operand.func 34), args := #[Operand.tmp 17, Operand.tmp 18, Operand.tmp 19, Operand.tmp 22], argTypes := #[29, 9, 3, 29] }) (T := 29) (f := 34) (args := #[.agg #[.pointer x], .string k, .int .i64 v, .agg #[.pointer p']]) rfl rfl rfl rfl (by kernel_rfl) (by rfl) (by go_simp) ?_
    refine (HJ.out _ t' p' bd2 hp' i2 ht).mono ?_
    rintro e w3 ⟨z, pz, rfl, hpz, hj, i3, b3⟩
    have bd3 : Below w1.heap.size w1 w3 := bd2.trans (b3.mono bd2.size)
    have qw3 : w3.cell? ⟨w.heap.size, 0, none⟩ = some (.pointer x) ∧ w3.cell? ⟨w.heap.size + 1, 0, none⟩ = some (.pointer y) ∧ Hid (Below w.heap.size w w3) := ⟨cell_stays qw2.1 b3, cell_stays qw2.2.1 b3, hide (qw2.2.2.out.trans (b3.mono qw2.2.2.out.size))⟩
    refine ⟨_, rfl, qw3, ?_⟩
    replace hHeld := qw3
    try simp only [Act.put, List.setIfInBounds_toArray, List.set_cons_zero, List.set_cons_succ]
    have h3 : w3.heap[w.heap.size + 1 + 1]? = some (.cells #[.pointer none] 29 (0, 0)) := (bd3.block _ (Array.getElem?_eq_some_iff.1 HR.out).1).trans HR.out
    have c3 : w3.cell? ⟨w.heap.size + 1 + 1, 0, none⟩ = some (.pointer none) := (cell_of_row _ _ 0 _ 29 (0, 0) h3).trans rfl
    have f3 : w3.frozen? ⟨w.heap.size + 1 + 1, 0, none⟩ = false := frozen_of_row _ _ 0 _ 29 h3
    obtain ⟨o1, o2, o3⟩ := out_box (y := .pointer pz) h3 (by omega) qw3.2.2.out
    have q9 : (w3.setCell ⟨w.heap.size + 1 + 1, 0, none⟩ (.pointer pz)).cell? ⟨w.heap.size, 0, none⟩ = some (.pointer x) ∧ (w3.setCell ⟨w.heap.size + 1 + 1, 0, none⟩ (.pointer pz)).cell? ⟨w.heap.size + 1, 0, none⟩ = some (.pointer y) ∧ Hid (Below w.heap.size w (w3.setCell ⟨w.heap.size + 1 + 1, 0, none⟩ (.pointer pz))) := ⟨o3.cell qw3.1 (by simp; omega), o3.cell qw3.2.1 (by simp), hide o2⟩
    have iz := In.aside h3 o3 i3
    refine skip_op (i := 7) (OP := Op.store 29 (Operand.tmp 4) (Operand.tmp 23)) (T := 0) (w' := (w3.setCell ⟨w.heap.size + 1 + 1, 0, none⟩ (.pointer pz))) rfl rfl rfl rfl (by kernel_rfl) (by rfl) (by go_simp) ⟨q9, ?_⟩
    try simp only [Act.put, List.setIfInBounds_toArray, List.set_cons_zero, List.set_cons_succ]
    replace hHeld := q9
    refine wpAnyH_done (by kernel_rfl) ?_ _
    have HO := hide (And.intro o1 (And.intro o2 (And.intro iz (And.intro hpz (And.intro ht hj)))))
    have HTB := hide tb'
    go_wp2
    refine ret_row (w.heap.size + 1 + 1) [.pointer pz] rfl rfl Try.underlying29 rfl Try.info29 HO.out.1 rfl ?_
    refine ⟨z, by rw [HO.out.2.2.2.1], .inr ⟨HXY.out.2, t', z, ?_, ?_, rfl⟩, fun h1 h2 => (HO.out.2.2.2.2.2.says h1 (HTB.out h2)).bal, HO.out.2.2.1, HO.out.2.1⟩
    · rw [HKV.out.1]; exact HO.out.2.2.2.2.1
    · rw [HKV.out.1, HKV.out.2]; exact HO.out.2.2.2.2.2
end Go.Proofs.Ytckkoigghkgfdaa
