/-
  walk: closed 138: BOTH SIDES WITHOUT A KEY BETWEEN THEM.
  walk: THE ELEMENTS' RULE: Keep 14.
  walk: THREE MAPS RUN TOGETHER (the plain part).
  walk: WHERE THE WALK READS NOTHING: the closure 31 of Run.
-/
import Derived.Test.YtkkpdgfllnbigaaGreatMg12
namespace Go.Proofs.YtkkpdgfllnbigaaGreat.Pm
open Go.RowKit Go.Shelf
set_option linter.unusedSimpArgs false

theorem In.underP {w : World} : ∀ {t : T}, In w t → t.under w.heap.size
  | .nil, _ => trivial
  | .node _ _ _ _ _, h => ⟨h.lt, In.underP h.2.1, In.underP h.2.2⟩
/-- What closed makes. -/
def Closes (B : Nat) (l r t : T) : Prop := (r = .nil ∧ t = l) ∨ (r ≠ .nil ∧ ∃ r' t0, Takes B r.first.key r r' ∧ Joined B r.first.key r.first.val l r' t0 ∧ t = t0)
theorem Closes.list {B : Nat} {l r t : T} (h : Closes B l r t) (hr : Srt r.list) : t.list = l.list ++ r.list := by
  rcases h with ⟨rfl, rfl⟩ | ⟨hn, r', t0, ht, hj, rfl⟩
  · simp [T.list]
  · obtain ⟨_, fk, fv, _, frest, f1, f2, _⟩ := T.first_spec hn
    rw [hj.list, ht.list hr]
    have e1 : r.first.key = fk := by rw [f1]; rfl
    have e2 : r.first.val = fv := by rw [f1]; rfl
    rw [e1, e2, f2]
    congr 1
    have hp : pos fk ((fk, fv) :: frest) = 0 := by simp [pos, ord_B.refl]
    have hh : has fk ((fk, fv) :: frest) = true := by unfold has; rw [hp]; simp
    unfold del
    rw [hh, hp]
    simp
theorem Closes.fits {l r r' : T} {B : Nat} (hn : r ≠ .nil) (hs : Srt (l.list ++ r.list)) (ht : Takes B r.first.key r r') : fitsB l r.first.key r' = true := by
  obtain ⟨_, fk, fv, _, frest, f1, f2, _⟩ := T.first_spec hn
  have e1 : r.first.key = fk := by rw [f1]; rfl
  rw [e1] at ht ⊢
  rw [f2] at hs
  obtain ⟨s1, s2, s3, s4⟩ := Srt.app.1 hs
  have hr : Srt r.list := by rw [f2]; exact (List.pairwise_append.1 hs).2.1
  have hl : r'.list = frest := by
    rw [ht.list hr, f2]
    have hp : pos fk ((fk, fv) :: frest) = 0 := by simp [pos, ord_B.refl]
    have hh : has fk ((fk, fv) :: frest) = true := by unfold has; rw [hp]; simp
    unfold del
    rw [hh, hp]
    simp
  exact (fits_is s1 (by rw [hl]; exact s2)).2 ⟨s3, by rw [hl]; exact s4⟩
set_option maxHeartbeats 4000000 in
theorem closed_any (l r : T) (w : World) (hl : In w l) (hr : In w r) (hs : Srt (l.list ++ r.list)) (hn : l.n + r.n ≤ 700000) : Calls Tryz.prog 227 #[mv l, mv r] w fun e w' => ∃ t, e = .returned (mv t) ∧ Closes w.heap.size l r t ∧ (l.bal → r.bal → t.bal) ∧ In w' t ∧ Below w.heap.size w w' := by
  have hsr : Srt r.list := (List.pairwise_append.1 hs).2.1
  obtain ⟨m0, m1, m2, hb⟩ := new3 w (.cells #[l.ptr] 27) (.cells #[r.ptr] 27) (.cells #[.pointer none] 27)
  have hf := mFirst_any r _ (In.below hb hr)
  by_cases hrn : r = .nil
  · subst hrn
    obtain ⟨x, hx⟩ := l.ptr_shape
    unfold mv at hf ⊢
    rw [hx] at hf hb m0 m1 m2 ⊢
    simp only [T.ptr, T.first, T.key, T.val, T.isSome] at hf hb m0 m1 m2 ⊢
    have HH := hide (And.intro hl (And.intro hb (And.intro m0 m2)))
    clear hl hr hs hn hb m0 m1 m2
    go_enter Tryz.func227, Tryz.ntmps227
    go_upto_region 3 with (go_at_call 145; refine hf.mono ?_; rintro e w1 ⟨rfl, b1⟩; dsimp only)
    obtain ⟨hl, hb, m0, m2⟩ := HH.out
    have h0 := (b1.block w.heap.size (by simp; omega)).trans m0
    have h2 := (b1.block (w.heap.size + 1 + 1) (by simp)).trans m2
    have c0 : w1.cell? ⟨w.heap.size, 0, none⟩ = some (.pointer x) := (cell_of_row _ _ 0 _ 27 (0, 0) h0).trans rfl
    have c2 : w1.cell? ⟨w.heap.size + 1 + 1, 0, none⟩ = some (.pointer none) := (cell_of_row _ _ 0 _ 27 (0, 0) h2).trans rfl
    have f2 : w1.frozen? ⟨w.heap.size + 1 + 1, 0, none⟩ = false := frozen_of_row _ _ 0 _ 27 h2
    have bw := hb.trans (b1.mono hb.size)
    obtain ⟨o1, o2, o3⟩ := out_box (y := .pointer x) h2 (by omega) bw
    have HO := hide (And.intro o1 (And.intro o2 (In.aside h2 o3 (In.below bw hl))))
    clear hl hb m0 m2 h0 h2 bw o1 o2 o3 b1 HH hf
    go_wp2
    refine ret_row (w.heap.size + 1 + 1) [.pointer x] rfl rfl Tryz.underlying27 rfl Tryz.info27 HO.out.1 rfl ?_
    exact ⟨l, congrArg (fun v => Ending.returned (Value.agg #[v])) hx.symm, .inl ⟨rfl, rfl⟩, fun h _ => h, HO.out.2.2, HO.out.2.1⟩
  · obtain ⟨x, hx⟩ := l.ptr_shape
    obtain ⟨y, hy⟩ := r.ptr_shape
    obtain ⟨_, _, _, _, _, fe, _⟩ := T.first_spec hrn
    have hsome : r.first.isSome = true := by rw [fe]; rfl
    have tk : ∀ W w1 : World, Below w1.heap.size w1 W → Below w.heap.size w w1 → Calls Tryz.prog 131 #[.agg #[.pointer y], .string r.first.key] W fun e w' => ∃ t' p', e = .returned (.agg #[.pointer p']) ∧ t'.ptr = .pointer p' ∧ In w' t' ∧ Takes w.heap.size r.first.key r t' ∧ (r.bal → t'.bal) ∧ Below W.heap.size W w' := fun W w1 hW hw1 => by
      have bW := hw1.trans (hW.mono hw1.size)
      have := mTake_any r r.first.key W (In.below bW hr) (by omega)
      rw [mv_ptr hy] at this
      refine this.mono ?_
      rintro e w' ⟨t', he, i1, ht, b1⟩
      obtain ⟨p', hp'⟩ := t'.ptr_shape
      exact ⟨t', p', by rw [he, mv_ptr hp'], hp', i1, ht.mono bW.size, fun hbal => (ht.says hsr hbal (In.underP (In.below bW hr))).bal, b1⟩
    have jn : ∀ (W w1 : World) (t' : T) (p' : Option Addr), Below w1.heap.size w1 W → Below w.heap.size w w1 → t'.ptr = .pointer p' → In W t' → Takes w.heap.size r.first.key r t' → Calls Tryz.prog 226 #[.agg #[.pointer x], .string r.first.key, .string r.first.val, .agg #[.pointer p']] W fun e w' => ∃ z pz, e = .returned (.agg #[.pointer pz]) ∧ z.ptr = .pointer pz ∧ Joined w.heap.size r.first.key r.first.val l t' z ∧ In w' z ∧ Below W.heap.size W w' := fun W w1 t' p' hW hw1 hp' it ht => by
      have bW := hw1.trans (hW.mono hw1.size)
      have hln : l.n + t'.n ≤ 700000 := by have := ht.n; omega
      have := joined_any l t' r.first.key r.first.val W (In.below bW hl) it (Closes.fits hrn hs ht) hln
      rw [mv_ptr hx, mv_ptr hp'] at this
      refine this.mono ?_
      rintro e w' ⟨z, he, hj, iz, b1⟩
      obtain ⟨pz, hpz⟩ := z.ptr_shape
      exact ⟨z, pz, by rw [he, mv_ptr hpz], hpz, hj.mono bW.size, iz, b1⟩
    rw [hsome] at hf
    unfold mv at hf ⊢
    rw [hx, hy] at hf hb m0 m1 m2 ⊢
    generalize hk : r.first.key = k at *
    generalize hv : r.first.val = v at *
    have HKV := hide (And.intro hk hv)
    clear hk hv
    have HH := hide (And.intro hb (And.intro m0 (And.intro m1 (And.intro m2 (And.intro tk jn)))))
    have HXY := hide (And.intro hx hrn)
    clear hl hr hs hn hb m0 m1 m2 tk jn hx hy hrn fe hsome hsr
    go_enter Tryz.func227, Tryz.ntmps227
    go_upto_region 4 with (go_at_call 145; refine hf.mono ?_; rintro e w1 ⟨rfl, b1⟩; dsimp only)
    obtain ⟨hb, m0, m1, m2, tk, jn⟩ := HH.out
    have h0 := (b1.block w.heap.size (by simp; omega)).trans m0
    have h1 := (b1.block (w.heap.size + 1) (by simp)).trans m1
    have HR := hide ((b1.block (w.heap.size + 1 + 1) (by simp)).trans m2)
    have c0 : w1.cell? ⟨w.heap.size, 0, none⟩ = some (.pointer x) := (cell_of_row _ _ 0 _ 27 (0, 0) h0).trans rfl
    have c1 : w1.cell? ⟨w.heap.size + 1, 0, none⟩ = some (.pointer y) := (cell_of_row _ _ 0 _ 27 (0, 0) h1).trans rfl
    have bw := hb.trans (b1.mono hb.size)
    have HJ := hide (fun (W : World) (t' : T) (p' : Option Addr) (hW : Below w1.heap.size w1 W) => jn W w1 t' p' hW bw)
    have tk := fun (W : World) (hW : Below w1.heap.size w1 W) => tk W w1 hW bw
    have q0 : w1.cell? ⟨w.heap.size, 0, none⟩ = some (.pointer x) ∧ w1.cell? ⟨w.heap.size + 1, 0, none⟩ = some (.pointer y) ∧ Hid (Below w.heap.size w w1) := ⟨c0, c1, hide bw⟩
    clear hb m0 m1 m2 jn h0 h1 b1 c0 c1 HH hf bw
    have qd : w1.drew.cell? ⟨w.heap.size, 0, none⟩ = some (.pointer x) ∧ w1.drew.cell? ⟨w.heap.size + 1, 0, none⟩ = some (.pointer y) ∧ Hid (Below w.heap.size w w1.drew) := ⟨q0.1, q0.2.1, hide (q0.2.2.out.trans ((drew_below w1).mono q0.2.2.out.size))⟩
    refine wp_region_held_drew (S := (fun w' => w'.cell? ⟨w.heap.size, 0, none⟩ = some (.pointer x) ∧ w'.cell? ⟨w.heap.size + 1, 0, none⟩ = some (.pointer y) ∧ Hid (Below w.heap.size w w'))) (by kernel_rfl) qd (fun hHeld => ?_)
    try dsimp only at hHeld
    refine take_op (i := 0) (d := 17) (OP := Op.load 27 (Operand.tmp 2)) (T := 27) (v := ?v1) rfl rfl rfl rfl (by kernel_rfl) (by kernel_rfl) (by kernel_rfl) (fun _ _ _ h => h) (by rfl) ?h1 hHeld ?r1
    case h1 => (intro w' hSw; (try dsimp only at hSw); go_simp <;> with_reducible rfl)
    try simp only [Act.put, sI, sZ, sS]
    refine take_op (i := 1) (d := 18) (OP := Op.move (Operand.tmp 5)) (T := 9) (v := ?v2) rfl rfl rfl rfl (by kernel_rfl) (by kernel_rfl) (by kernel_rfl) (fun _ _ _ h => h) (by rfl) ?h2 hHeld ?r2
    case h2 => (intro w' hSw; (try dsimp only at hSw); go_simp <;> with_reducible rfl)
    try simp only [Act.put, sI, sZ, sS]
    refine take_op (i := 2) (d := 19) (OP := Op.move (Operand.tmp 6)) (T := 9) (v := ?v3) rfl rfl rfl rfl (by kernel_rfl) (by kernel_rfl) (by kernel_rfl) (fun _ _ _ h => h) (by rfl) ?h3 hHeld ?r3
    case h3 => (intro w' hSw; (try dsimp only at hSw); go_simp <;> with_reducible rfl)
    try simp only [Act.put, sI, sZ, sS]
    refine take_op (i := 3) (d := 20) (OP := Op.load 27 (Operand.tmp 3)) (T := 27) (v := ?v4) rfl rfl rfl rfl (by kernel_rfl) (by kernel_rfl) (by kernel_rfl) (fun _ _ _ h => h) (by rfl) ?h4 hHeld ?r4
    case h4 => (intro w' hSw; (try dsimp only at hSw); go_simp <;> with_reducible rfl)
    try simp only [Act.put, sI, sZ, sS]
    refine take_op (i := 4) (d := 21) (OP := Op.move (Operand.tmp 5)) (T := 9) (v := ?v5) rfl rfl rfl rfl (by kernel_rfl) (by kernel_rfl) (by kernel_rfl) (fun _ _ _ h => h) (by rfl) ?h5 hHeld ?r5
    case h5 => (intro w' hSw; (try dsimp only at hSw); go_simp <;> with_reducible rfl)
    try simp only [Act.put, sI, sZ, sS]
    refine call_op (i := 5) (d := 22) (OP := Op.call { callee := Callee.value (Operand.func 131), args := #[Operand.tmp 20, Operand.tmp 21], argTypes := #[27, 9] }) (T := 27) (f := 131) (args := #[.agg #[.pointer y], .string k]) rfl rfl rfl rfl (by kernel_rfl) (by rfl) (by go_simp) ?_
    refine (tk _ (drew_below w1)).mono ?_
    rintro e w2 ⟨t', p', rfl, hp', i2, ht, tb', b2⟩
    have bd2 : Below w1.heap.size w1 w2 := (drew_below w1).trans (b2.mono (drew_below w1).size)
    have qw2 : w2.cell? ⟨w.heap.size, 0, none⟩ = some (.pointer x) ∧ w2.cell? ⟨w.heap.size + 1, 0, none⟩ = some (.pointer y) ∧ Hid (Below w.heap.size w w2) := ⟨cell_stays qd.1 b2, cell_stays qd.2.1 b2, hide (qd.2.2.out.trans (b2.mono qd.2.2.out.size))⟩
    refine ⟨_, rfl, qw2, ?_⟩
    replace hHeld := qw2
    try simp only [Act.put, sI, sZ, sS]
    refine call_op (i := 6) (d := 23) (OP := Op.call { callee := Callee.value (Operand.func 226), args := #[Operand.tmp 17, Operand.tmp 18, Operand.tmp 19, Operand.tmp 22], argTypes := #[27, 9, 9, 27] }) (T := 27) (f := 226) (args := #[.agg #[.pointer x], .string k, .string v, .agg #[.pointer p']]) rfl rfl rfl rfl (by kernel_rfl) (by rfl) (by go_simp) ?_
    refine (HJ.out _ t' p' bd2 hp' i2 ht).mono ?_
    rintro e w3 ⟨z, pz, rfl, hpz, hj, i3, b3⟩
    have bd3 : Below w1.heap.size w1 w3 := bd2.trans (b3.mono bd2.size)
    have qw3 : w3.cell? ⟨w.heap.size, 0, none⟩ = some (.pointer x) ∧ w3.cell? ⟨w.heap.size + 1, 0, none⟩ = some (.pointer y) ∧ Hid (Below w.heap.size w w3) := ⟨cell_stays qw2.1 b3, cell_stays qw2.2.1 b3, hide (qw2.2.2.out.trans (b3.mono qw2.2.2.out.size))⟩
    refine ⟨_, rfl, qw3, ?_⟩
    replace hHeld := qw3
    try simp only [Act.put, sI, sZ, sS]
    have h3 : w3.heap[w.heap.size + 1 + 1]? = some (.cells #[.pointer none] 27 (0, 0)) := (bd3.block _ (gI HR.out).1).trans HR.out
    have c3 : w3.cell? ⟨w.heap.size + 1 + 1, 0, none⟩ = some (.pointer none) := (cell_of_row _ _ 0 _ 27 (0, 0) h3).trans rfl
    have f3 : w3.frozen? ⟨w.heap.size + 1 + 1, 0, none⟩ = false := frozen_of_row _ _ 0 _ 27 h3
    obtain ⟨o1, o2, o3⟩ := out_box (y := .pointer pz) h3 (by omega) qw3.2.2.out
    have q9 : (w3.setCell ⟨w.heap.size + 1 + 1, 0, none⟩ (.pointer pz)).cell? ⟨w.heap.size, 0, none⟩ = some (.pointer x) ∧ (w3.setCell ⟨w.heap.size + 1 + 1, 0, none⟩ (.pointer pz)).cell? ⟨w.heap.size + 1, 0, none⟩ = some (.pointer y) ∧ Hid (Below w.heap.size w (w3.setCell ⟨w.heap.size + 1 + 1, 0, none⟩ (.pointer pz))) := ⟨o3.cell qw3.1 (by simp; omega), o3.cell qw3.2.1 (by simp), hide o2⟩
    have iz := In.aside h3 o3 i3
    refine skip_op (i := 7) (OP := Op.store 27 (Operand.tmp 4) (Operand.tmp 23)) (T := 0) (w' := (w3.setCell ⟨w.heap.size + 1 + 1, 0, none⟩ (.pointer pz))) rfl rfl rfl rfl (by kernel_rfl) (by rfl) (by go_simp) ⟨q9, ?_⟩
    try simp only [Act.put, sI, sZ, sS]
    replace hHeld := q9
    refine wpAnyH_done (by kernel_rfl) ?_ _
    have HO := hide (And.intro o1 (And.intro o2 (And.intro iz (And.intro hpz (And.intro ht hj)))))
    have HTB := hide tb'
    go_wp2
    refine ret_row (w.heap.size + 1 + 1) [.pointer pz] rfl rfl Tryz.underlying27 rfl Tryz.info27 HO.out.1 rfl ?_
    refine ⟨z, by rw [HO.out.2.2.2.1], .inr ⟨HXY.out.2, t', z, ?_, ?_, rfl⟩, fun h1 h2 => (HO.out.2.2.2.2.2.says h1 (HTB.out h2)).bal, HO.out.2.2.1, HO.out.2.1⟩
    · rw [HKV.out.1]; exact HO.out.2.2.2.2.1
    · rw [HKV.out.1, HKV.out.2]; exact HO.out.2.2.2.2.2
end Go.Proofs.YtkkpdgfllnbigaaGreat.Pm
namespace Go.Proofs.YtkkpdgfllnbigaaGreat.Pm
open Go.RowKit Go.Shelf
set_option linter.unusedSimpArgs false

/-- What a map has under a key. -/
def pv (p : ByteArray × Bool) : Value := .agg #[.string p.1, .bool p.2]
/-- The elements' rule: does a key stay, and with what? -/
def keeps (p q r : ByteArray × Bool) : ByteArray × Bool := if q.2 && (r.2 || !p.2) then (q.1, true) else if r.2 && !p.2 then (r.1, true) else (⟨#[]⟩, false)
set_option maxHeartbeats 2000000 in
theorem keep_any (k : ByteArray) (p q r : ByteArray × Bool) (w : World) : Calls Tryz.prog 185 #[.string k, pv p, pv q, pv r] w fun e w' => e = .returned (.tuple #[.string (keeps p q r).1, .bool (keeps p q r).2]) ∧ Below w.heap.size w w' := by
  obtain ⟨p1, p2⟩ := p
  obtain ⟨q1, q2⟩ := q
  obtain ⟨r1, r2⟩ := r
  have hb : Below w.heap.size w (((w.alloc (.cells #[.string p1, .bool p2] 211)).alloc (.cells #[.string q1, .bool q2] 211)).alloc (.cells #[.string r1, .bool r2] 211)) := (new3 w _ _ _).2.2.2
  unfold pv
  have HB := hide hb
  clear hb
  cases p2 <;> cases q2 <;> cases r2 <;> (go_enter Tryz.func185, Tryz.ntmps185; go_wp2; go_ret2; exact ⟨rfl, HB.out⟩)
end Go.Proofs.YtkkpdgfllnbigaaGreat.Pm
namespace Go.Proofs.YtkkpdgfllnbigaaGreat.Pm
open Go.RowKit Go.Shelf
set_option linter.unusedSimpArgs false

theorem ins_less {x : ByteArray × ByteArray} {k : ByteArray} {v : ByteArray} {l : List (ByteArray × ByteArray)} (h : cmpB x.1 k = -1) : ins k v (x :: l) = x :: ins k v l := by
  have hp : pos k (x :: l) = pos k l + 1 := by simp [pos, h]
  have hh : has k (x :: l) = has k l := by unfold has; rw [hp]; simp
  unfold ins
  rw [hp, hh]
  split <;> simp
theorem ins_mem {k : ByteArray} {v : ByteArray} {l : List (ByteArray × ByteArray)} {y : ByteArray × ByteArray} (h : y ∈ ins k v l) : y = (k, v) ∨ y ∈ l := by
  unfold ins at h
  rcases List.mem_append.1 h with h | h
  · exact .inr (List.mem_of_mem_take h)
  · rcases List.mem_cons.1 h with h | h
    · exact .inl h
    · exact .inr (List.mem_of_mem_drop h)
theorem srt_ins {l : List (ByteArray × ByteArray)} (h : Srt l) (k : ByteArray) (v : ByteArray) : Srt (ins k v l) := by
  induction l with
  | nil => simp [ins, pos, has, Srt]
  | cons x l ih =>
    obtain ⟨h1, h2⟩ := List.pairwise_cons.1 h
    by_cases hc : cmpB x.1 k = -1
    · rw [ins_less hc]
      refine List.Pairwise.cons (fun y hy => ?_) (ih h2)
      rcases ins_mem hy with rfl | hy
      · exact hc
      · exact h1 y hy
    · have hp : pos k (x :: l) = 0 := by simp [pos, hc]
      have hh : has k (x :: l) = decide (x.1 = k) := by unfold has; rw [hp]; rfl
      unfold ins
      rw [hp, hh]
      by_cases he : x.1 = k
      · simp only [he, decide_true, if_true, List.take_zero, List.nil_append, Nat.zero_add, List.drop_succ_cons, List.drop_zero]
        exact List.Pairwise.cons (fun y hy => by have := h1 y hy; rw [he] at this; exact this) h2
      · simp only [he, decide_false, Bool.false_eq_true, if_false, List.take_zero, List.nil_append, List.drop_zero]
        have hk : cmpB k x.1 = -1 := by
          have h3 := ord_B.range x.1 k
          have h4 := ord_B.anti k x.1
          rcases h3 with h3 | h3 | h3
          · exact (hc h3).elim
          · exact (he (ord_B.eq _ _ h3)).elim
          · have := ord_B.anti x.1 k; omega
        refine List.Pairwise.cons (fun y hy => ?_) h
        rcases List.mem_cons.1 hy with rfl | hy
        · exact hk
        · exact ord_B.trans _ _ _ hk (h1 y hy)
/-- What a list has under a key. -/
def look (k : ByteArray) : List (ByteArray × ByteArray) → ByteArray × Bool
  | [] => (⟨#[]⟩, false)
  | x :: l => if x.1 = k then (x.2, true) else look k l
theorem look_none {k : ByteArray} : ∀ {l : List (ByteArray × ByteArray)}, (∀ y ∈ l, y.1 ≠ k) → look k l = (⟨#[]⟩, false)
  | [], _ => rfl
  | x :: l, h => by rw [look, if_neg (h x (by simp)), look_none (fun y hy => h y (by simp [hy]))]
theorem look_left {k : ByteArray} : ∀ {l r : List (ByteArray × ByteArray)}, (∀ y ∈ r, y.1 ≠ k) → look k (l ++ r) = look k l
  | [], r, h => by rw [List.nil_append, look_none h]; rfl
  | x :: l, r, h => by rw [List.cons_append, look, look, look_left h]
theorem look_right {k : ByteArray} : ∀ {l r : List (ByteArray × ByteArray)}, (∀ y ∈ l, y.1 ≠ k) → look k (l ++ r) = look k r
  | [], r, h => rfl
  | x :: l, r, h => by rw [List.cons_append, look, if_neg (h x (by simp)), look_right (fun y hy => h y (by simp [hy]))]
theorem cmp_ne {a b : ByteArray} (h : cmpB a b = -1) : a ≠ b := fun e => by rw [e, ord_B.refl] at h; exact absurd h (by decide)
theorem cmp_three (a b : ByteArray) : cmpB a b = -1 ∨ a = b ∨ cmpB b a = -1 := by
  rcases ord_B.range a b with h | h | h
  · exact .inl h
  · exact .inr (.inl (ord_B.eq _ _ h))
  · right; right; have := ord_B.anti b a; omega
/-- A key between two sides. -/
theorem look_mid {k : ByteArray} {v : ByteArray} {l r : List (ByteArray × ByteArray)} (hl : ∀ y ∈ l, cmpB y.1 k = -1) (hr : ∀ y ∈ r, cmpB k y.1 = -1) : look k (l ++ (k, v) :: r) = (v, true) ∧ (∀ j, cmpB j k = -1 → look j (l ++ (k, v) :: r) = look j l) ∧ (∀ j, cmpB k j = -1 → look j (l ++ (k, v) :: r) = look j r) := by
  refine ⟨?_, fun j hj => ?_, fun j hj => ?_⟩
  · rw [look_right (fun y hy => cmp_ne (hl y hy))]; simp [look]
  · refine look_left (fun y hy => ?_)
    rcases List.mem_cons.1 hy with rfl | hy
    · exact (cmp_ne hj).symm
    · exact (cmp_ne (ord_B.trans _ _ _ hj (hr y hy))).symm
  · rw [look_right (fun y hy => cmp_ne (ord_B.trans _ _ _ (hl y hy) hj)), look, if_neg (cmp_ne hj)]
/-- Two sides without a key between them. -/
theorem look_two {k : ByteArray} {l r : List (ByteArray × ByteArray)} (hl : ∀ y ∈ l, cmpB y.1 k = -1) (hr : ∀ y ∈ r, cmpB k y.1 = -1) : look k (l ++ r) = (⟨#[]⟩, false) ∧ (∀ j, cmpB j k = -1 → look j (l ++ r) = look j l) ∧ (∀ j, cmpB k j = -1 → look j (l ++ r) = look j r) := by
  refine ⟨?_, fun j hj => ?_, fun j hj => ?_⟩
  · rw [look_right (fun y hy => cmp_ne (hl y hy)), look_none (fun y hy => (cmp_ne (hr y hy)).symm)]
  · exact look_left (fun y hy => (cmp_ne (ord_B.trans _ _ _ hj (hr y hy))).symm)
  · exact look_right (fun y hy => cmp_ne (ord_B.trans _ _ _ (hl y hy) hj))
/-- What a map's search tells is what its list has. -/
theorem find_look : ∀ (t : T) (k : ByteArray), Srt t.list → ((t.find k).val, (t.find k).isSome) = look k t.list
  | .nil, k, _ => rfl
  | .node p nk nv l r, k, hs => by
    obtain ⟨s1, s2, s3, s4⟩ := Srt.app.1 hs
    obtain ⟨m1, m2, m3⟩ := look_mid (v := nv) s3 s4
    rw [T.list, T.find]
    rcases cmp_three k nk with h | h | h
    · rw [if_pos h, m2 k h]; exact find_look l k s1
    · subst h
      rw [ord_B.refl, if_neg (by decide), if_neg (by decide), m1]; rfl
    · have h1 : cmpB k nk = 1 := by have := ord_B.anti k nk; omega
      rw [if_neg (by omega), if_pos h1, m3 k h]; exact find_look r k s2
/-- What a split tells, by the lists. -/
structure Sides (k : ByteArray) (t a f b : T) : Prop where
  asrt : Srt a.list
  bsrt : Srt b.list
  less : ∀ y ∈ a.list, cmpB y.1 k = -1
  more : ∀ y ∈ b.list, cmpB k y.1 = -1
  at_ : look k t.list = (f.val, f.isSome)
  below : ∀ j, cmpB j k = -1 → look j t.list = look j a.list
  above : ∀ j, cmpB k j = -1 → look j t.list = look j b.list
  inA : ∀ y ∈ a.list, y ∈ t.list
  inB : ∀ y ∈ b.list, y ∈ t.list
  n : a.n + b.n + (if f.isSome then 1 else 0) = t.n
theorem Splits.sides {B : Nat} {k : ByteArray} {t a f b : T} (h : Splits B k t a f b) (hs : Srt t.list) : Sides k t a f b := by
  obtain ⟨h1, h2, h3, h4⟩ := h.list hs
  have hi : a.list ++ (k, ⟨#[]⟩) :: b.list = ins k ⟨#[]⟩ t.list := by rw [h1, h2]; rfl
  have hsi := srt_ins hs k ⟨#[]⟩
  rw [← hi] at hsi
  obtain ⟨s1, s2, s3, s4⟩ := Srt.app.1 hsi
  have hpl := pos_le k t.list
  cases hG : has k t.list with
  | false =>
    rw [hG] at h2
    simp only [if_neg Bool.false_ne_true] at h2
    have ht : t.list = a.list ++ b.list := by rw [h1, h2, List.take_append_drop]
    have hf := h3 hG
    subst hf
    obtain ⟨m1, m2, m3⟩ := look_two s3 s4
    refine ⟨s1, s2, s3, s4, by rw [ht, m1]; rfl, fun j hj => by rw [ht, m2 j hj], fun j hj => by rw [ht, m3 j hj], fun y hy => by rw [ht]; simp [hy], fun y hy => by rw [ht]; simp [hy], ?_⟩
    have := congrArg List.length ht
    simp only [List.length_append, T.n_eq] at this
    simp [T.isSome]; omega
  | true =>
    rw [hG] at h2
    simp only [if_true] at h2
    obtain ⟨hn, hg⟩ := h4 hG
    have ht : t.list = a.list ++ (k, f.val) :: b.list := by
      have hlt := (List.getElem?_eq_some_iff.1 hg).1
      rw [h1, h2]
      rw [List.getElem?_eq_getElem hlt] at hg
      rw [← Option.some.inj hg, List.getElem_cons_drop, List.take_append_drop]
    have hsome : f.isSome = true := by
      cases f with
      | nil => exact (hn rfl).elim
      | node => rfl
    obtain ⟨m1, m2, m3⟩ := look_mid (v := f.val) s3 s4
    refine ⟨s1, s2, s3, s4, by rw [ht, m1, hsome], fun j hj => by rw [ht, m2 j hj], fun j hj => by rw [ht, m3 j hj], fun y hy => by rw [ht]; simp [hy], fun y hy => by rw [ht]; simp [hy], ?_⟩
    have := congrArg List.length ht
    simp only [List.length_append, List.length_cons, T.n_eq] at this
    rw [hsome]; simp; omega
/-- The key that the walk reads. -/
def topK (a b : T) : ByteArray := if a = .nil then b.key else a.key
def T.part (f : T) : ByteArray × Bool := (f.val, f.isSome)
/-- Three maps run together by a rule: the map, and the keys that the rule is asked for, in their order. -/
inductive Runs (B : Nat) (R : ByteArray → ByteArray × Bool → ByteArray × Bool → ByteArray × Bool → ByteArray × Bool) : T → T → T → T → List ByteArray → Prop where
  | same {o a : T} : Runs B R o a a a []
  | left {o b : T} (h : o ≠ b) : Runs B R o o b b []
  | right {o a : T} (h : a ≠ o) : Runs B R o a o a []
  | joins {o a b o1 o2 f a1 a2 g b1 b2 h t1 t2 t : T} {ks1 ks2 : List ByteArray} {v : ByteArray} (n1 : a ≠ b) (n2 : o ≠ a) (n3 : o ≠ b) (so : Splits B (topK a b) o o1 f o2) (sa : Splits B (topK a b) a a1 g a2) (sb : Splits B (topK a b) b b1 h b2)
      (r1 : Runs B R o1 a1 b1 t1 ks1) (r2 : Runs B R o2 a2 b2 t2 ks2) (hr : R (topK a b) f.part g.part h.part = (v, true)) (hj : Joined B (topK a b) v t1 t2 t) : Runs B R o a b t (ks1 ++ ks2 ++ [topK a b])
  | closes {o a b o1 o2 f a1 a2 g b1 b2 h t1 t2 t : T} {ks1 ks2 : List ByteArray} {v : ByteArray} (n1 : a ≠ b) (n2 : o ≠ a) (n3 : o ≠ b) (so : Splits B (topK a b) o o1 f o2) (sa : Splits B (topK a b) a a1 g a2) (sb : Splits B (topK a b) b b1 h b2)
      (r1 : Runs B R o1 a1 b1 t1 ks1) (r2 : Runs B R o2 a2 b2 t2 ks2) (hr : R (topK a b) f.part g.part h.part = (v, false)) (hj : Closes B t1 t2 t) (hb : t1.bal → t2.bal → t.bal) : Runs B R o a b t (ks1 ++ ks2 ++ [topK a b])
theorem root_has {B : Nat} {t a f b : T} (hn : t ≠ .nil) (h : Splits B t.key t a f b) (hs : Srt t.list) : f.isSome = true := by
  have h1 := (h.sides hs).at_
  cases t with
  | nil => exact (hn rfl).elim
  | node p k v l r =>
    obtain ⟨s1, s2, s3, s4⟩ := Srt.app.1 hs
    rw [show (T.node p k v l r).list = l.list ++ (k, v) :: r.list from rfl, show (T.node p k v l r).key = k from rfl, (look_mid (v := v) s3 s4).1] at h1
    exact (congrArg Prod.snd h1).symm
/-- What stands of the sides that are run together. -/
theorem top_has {B : Nat} {a b a1 a2 g b1 b2 h : T} (n1 : a ≠ b) (sa : Splits B (topK a b) a a1 g a2) (sb : Splits B (topK a b) b b1 h b2) (ha : Srt a.list) (hb : Srt b.list) : g.isSome = true ∨ h.isSome = true := by
  by_cases e : a = .nil
  · right
    have hk : topK a b = b.key := by unfold topK; rw [if_pos e]
    rw [hk] at sb
    exact root_has (fun e2 => n1 (by rw [e, e2])) sb hb
  · left
    have hk : topK a b = a.key := by unfold topK; rw [if_neg e]
    rw [hk] at sa
    exact root_has e sa ha
theorem look_mem {k : ByteArray} : ∀ {l : List (ByteArray × ByteArray)}, (look k l).2 = true → ∃ y ∈ l, y.1 = k
  | [], h => by simp [look] at h
  | x :: l, h => by
    by_cases e : x.1 = k
    · exact ⟨x, by simp, e⟩
    · rw [look, if_neg e] at h
      obtain ⟨y, hy, e2⟩ := look_mem h
      exact ⟨y, by simp [hy], e2⟩
/-- What a rule must answer. -/
structure Fair (V : ByteArray → ByteArray × Bool → Prop) (R : ByteArray → ByteArray × Bool → ByteArray × Bool → ByteArray × Bool → ByteArray × Bool) : Prop where
  none : ∀ k, V k (⟨#[]⟩, false)
  both : ∀ k p q, V k p → V k q → R k p q q = q
  left : ∀ k p r, V k p → V k r → R k p p r = r
  right : ∀ k p q, V k p → V k q → R k p q p = q
  norm : ∀ k p q r, (R k p q r).2 = false → R k p q r = (⟨#[]⟩, false)
/-- What a walk comes to. -/
structure RunSays (R : ByteArray → ByteArray × Bool → ByteArray × Bool → ByteArray × Bool → ByteArray × Bool) (o a b t : T) (ks : List ByteArray) : Prop where
  bal : t.bal
  srt : Srt t.list
  look : ∀ k, look k t.list = R k (look k o.list) (look k a.list) (look k b.list)
  keys : ∀ y ∈ t.list, (∃ x ∈ a.list, x.1 = y.1) ∨ (∃ x ∈ b.list, x.1 = y.1)
  asked : ∀ k ∈ ks, (∃ x ∈ a.list, x.1 = k) ∨ (∃ x ∈ b.list, x.1 = k)
  once : ks.Nodup
  few : ks.length ≤ a.n + b.n
  tn : t.n ≤ a.n + b.n
theorem Sides.valid {V : ByteArray → ByteArray × Bool → Prop} {k : ByteArray} {t a f b : T} (h : Sides k t a f b) (h0 : ∀ k, V k (⟨#[]⟩, false)) (hv : ∀ j, V j (Go.Proofs.YtkkpdgfllnbigaaGreat.Pm.look j t.list)) : (∀ j, V j (Go.Proofs.YtkkpdgfllnbigaaGreat.Pm.look j a.list)) ∧ (∀ j, V j (Go.Proofs.YtkkpdgfllnbigaaGreat.Pm.look j b.list)) := by
  refine ⟨fun j => ?_, fun j => ?_⟩
  · rcases cmp_three j k with e | e | e
    · rw [← h.below j e]; exact hv j
    · subst e; rw [look_none (fun y hy => cmp_ne (h.less y hy))]; exact h0 _
    · rw [look_none (fun y hy => cmp_ne (ord_B.trans _ _ _ (h.less y hy) e))]; exact h0 _
  · rcases cmp_three j k with e | e | e
    · rw [look_none (fun y hy => (cmp_ne (ord_B.trans _ _ _ e (h.more y hy))).symm)]; exact h0 _
    · subst e; rw [look_none (fun y hy => (cmp_ne (h.more y hy)).symm)]; exact h0 _
    · rw [← h.above j e]; exact hv j
/-- What the two halves of a walk give for the whole. -/
structure Mid (R : ByteArray → ByteArray × Bool → ByteArray × Bool → ByteArray × Bool → ByteArray × Bool) (K : ByteArray) (o a b f g h t1 t2 : T) (ks1 ks2 : List ByteArray) : Prop where
  b1 : t1.bal
  b2 : t2.bal
  s1 : Srt t1.list
  s2 : Srt t2.list
  less : ∀ y ∈ t1.list, cmpB y.1 K = -1
  more : ∀ y ∈ t2.list, cmpB K y.1 = -1
  lookL : ∀ j, cmpB j K = -1 → look j t1.list = R j (look j o.list) (look j a.list) (look j b.list)
  lookM : R K f.part g.part h.part = R K (look K o.list) (look K a.list) (look K b.list)
  lookR : ∀ j, cmpB K j = -1 → look j t2.list = R j (look j o.list) (look j a.list) (look j b.list)
  keys1 : ∀ y ∈ t1.list, (∃ x ∈ a.list, x.1 = y.1) ∨ (∃ x ∈ b.list, x.1 = y.1)
  keys2 : ∀ y ∈ t2.list, (∃ x ∈ a.list, x.1 = y.1) ∨ (∃ x ∈ b.list, x.1 = y.1)
  key : (∃ x ∈ a.list, x.1 = K) ∨ (∃ x ∈ b.list, x.1 = K)
  asked : ∀ k ∈ ks1 ++ ks2 ++ [K], (∃ x ∈ a.list, x.1 = k) ∨ (∃ x ∈ b.list, x.1 = k)
  once : (ks1 ++ ks2 ++ [K]).Nodup
  few : (ks1 ++ ks2 ++ [K]).length ≤ a.n + b.n
  tn : t1.n + t2.n + 1 ≤ a.n + b.n
theorem Runs.mid {B : Nat} {R : ByteArray → ByteArray × Bool → ByteArray × Bool → ByteArray × Bool → ByteArray × Bool} {o a b o1 o2 f a1 a2 g b1 b2 h t1 t2 : T} {ks1 ks2 : List ByteArray} (n1 : a ≠ b) (so : Splits B (topK a b) o o1 f o2) (sa : Splits B (topK a b) a a1 g a2) (sb : Splits B (topK a b) b b1 h b2)
    (So : Srt o.list) (Sa : Srt a.list) (Sb : Srt b.list) (i1 : RunSays R o1 a1 b1 t1 ks1) (i2 : RunSays R o2 a2 b2 t2 ks2) : Mid R (topK a b) o a b f g h t1 t2 ks1 ks2 := by
  have xo := so.sides So
  have xa := sa.sides Sa
  have xb := sb.sides Sb
  have hth := top_has n1 sa sb Sa Sb
  generalize topK a b = K at *
  have hkey : (∃ x ∈ a.list, x.1 = K) ∨ (∃ x ∈ b.list, x.1 = K) := by
    rcases hth with e | e
    · left; exact look_mem (by rw [xa.at_]; exact e)
    · right; exact look_mem (by rw [xb.at_]; exact e)
  have hl : ∀ {k : ByteArray}, ((∃ x ∈ a1.list, x.1 = k) ∨ (∃ x ∈ b1.list, x.1 = k)) → cmpB k K = -1 := fun {k} hk => by
    rcases hk with ⟨x, hx, rfl⟩ | ⟨x, hx, rfl⟩
    · exact xa.less x hx
    · exact xb.less x hx
  have hm : ∀ {k : ByteArray}, ((∃ x ∈ a2.list, x.1 = k) ∨ (∃ x ∈ b2.list, x.1 = k)) → cmpB K k = -1 := fun {k} hk => by
    rcases hk with ⟨x, hx, rfl⟩ | ⟨x, hx, rfl⟩
    · exact xa.more x hx
    · exact xb.more x hx
  have up1 : ∀ {k : ByteArray}, ((∃ x ∈ a1.list, x.1 = k) ∨ (∃ x ∈ b1.list, x.1 = k)) → (∃ x ∈ a.list, x.1 = k) ∨ (∃ x ∈ b.list, x.1 = k) := fun {k} hk => by
    rcases hk with ⟨x, hx, e⟩ | ⟨x, hx, e⟩
    · exact .inl ⟨x, xa.inA x hx, e⟩
    · exact .inr ⟨x, xb.inA x hx, e⟩
  have up2 : ∀ {k : ByteArray}, ((∃ x ∈ a2.list, x.1 = k) ∨ (∃ x ∈ b2.list, x.1 = k)) → (∃ x ∈ a.list, x.1 = k) ∨ (∃ x ∈ b.list, x.1 = k) := fun {k} hk => by
    rcases hk with ⟨x, hx, e⟩ | ⟨x, hx, e⟩
    · exact .inl ⟨x, xa.inB x hx, e⟩
    · exact .inr ⟨x, xb.inB x hx, e⟩
  have hcount : a1.n + a2.n + b1.n + b2.n + 1 ≤ a.n + b.n := by
    have e1 := xa.n
    have e2 := xb.n
    rcases hth with e | e
    · rw [e] at e1; simp at e1; omega
    · rw [e] at e2; simp at e2; omega
  have f1 := i1.few
  have f2 := i2.few
  have u1 := i1.tn
  have u2 := i2.tn
  refine ⟨i1.bal, i2.bal, i1.srt, i2.srt, fun y hy => hl (i1.keys y hy), fun y hy => hm (i2.keys y hy), fun j hj => ?_, ?_, fun j hj => ?_, fun y hy => up1 (i1.keys y hy), fun y hy => up2 (i2.keys y hy), hkey, fun k hk => ?_, ?_, ?_, by omega⟩
  · rw [i1.look j, xo.below j hj, xa.below j hj, xb.below j hj]
  · rw [xo.at_, xa.at_, xb.at_]; rfl
  · rw [i2.look j, xo.above j hj, xa.above j hj, xb.above j hj]
  · simp only [List.mem_append, List.mem_singleton] at hk
    rcases hk with (hk | hk) | hk
    · exact up1 (i1.asked k hk)
    · exact up2 (i2.asked k hk)
    · subst hk; exact hkey
  · rw [List.nodup_append, List.nodup_append]
    refine ⟨⟨i1.once, i2.once, fun x hx y hy e => ?_⟩, by simp, fun x hx y hy e => ?_⟩
    · subst e
      exact cmp_ne (ord_B.trans _ _ _ (hl (i1.asked x hx)) (hm (i2.asked x hy))) rfl
    · simp only [List.mem_singleton] at hy
      subst hy
      subst e
      rcases List.mem_append.1 hx with hx | hx
      · exact cmp_ne (hl (i1.asked x hx)) rfl
      · exact cmp_ne (hm (i2.asked x hx)) rfl
  · simp only [List.length_append, List.length_singleton]
    omega
theorem Runs.says {B : Nat} {V : ByteArray → ByteArray × Bool → Prop} {R : ByteArray → ByteArray × Bool → ByteArray × Bool → ByteArray × Bool → ByteArray × Bool} (hR : Fair V R) {o a b t : T} {ks : List ByteArray} (h : Runs B R o a b t ks) :
    Srt o.list → Srt a.list → Srt b.list → o.bal → a.bal → b.bal → (∀ k, V k (look k o.list)) → (∀ k, V k (look k a.list)) → (∀ k, V k (look k b.list)) → RunSays R o a b t ks := by
  induction h with
  | @same o a =>
    intro so sa _ _ ba _ vo va _
    exact ⟨ba, sa, fun k => (hR.both k _ _ (vo k) (va k)).symm, fun y hy => .inl ⟨y, hy, rfl⟩, by simp, List.nodup_nil, by simp, by omega⟩
  | @left o b hne =>
    intro so _ sb _ _ bb vo _ vb
    exact ⟨bb, sb, fun k => (hR.left k _ _ (vo k) (vb k)).symm, fun y hy => .inr ⟨y, hy, rfl⟩, by simp, List.nodup_nil, by simp, by omega⟩
  | @right o a hne =>
    intro so sa _ _ ba _ vo va _
    exact ⟨ba, sa, fun k => (hR.right k _ _ (vo k) (va k)).symm, fun y hy => .inl ⟨y, hy, rfl⟩, by simp, List.nodup_nil, by simp, by omega⟩
  | @joins o a b o1 o2 f a1 a2 g b1 b2 h t1 t2 t ks1 ks2 v n1 n2 n3 so sa sb r1 r2 hr hj ih1 ih2 =>
    intro So Sa Sb Bo Ba Bb Vo Va Vb
    obtain ⟨vo1, vo2⟩ := (so.sides So).valid hR.none Vo
    obtain ⟨va1, va2⟩ := (sa.sides Sa).valid hR.none Va
    obtain ⟨vb1, vb2⟩ := (sb.sides Sb).valid hR.none Vb
    have i1 := ih1 (so.sides So).asrt (sa.sides Sa).asrt (sb.sides Sb).asrt (so.bal Bo).1 (sa.bal Ba).1 (sb.bal Bb).1 vo1 va1 vb1
    have i2 := ih2 (so.sides So).bsrt (sa.sides Sa).bsrt (sb.sides Sb).bsrt (so.bal Bo).2 (sa.bal Ba).2 (sb.bal Bb).2 vo2 va2 vb2
    have m := Runs.mid n1 so sa sb So Sa Sb i1 i2
    have hl : t.list = t1.list ++ (topK a b, v) :: t2.list := hj.list
    obtain ⟨q1, q2, q3⟩ := look_mid (v := v) m.less m.more
    refine ⟨(hj.says m.b1 m.b2).bal, by rw [hl]; exact Srt.app.2 ⟨m.s1, m.s2, m.less, m.more⟩, fun k => ?_, fun y hy => ?_, m.asked, m.once, m.few, ?_⟩
    · rw [hl]
      rcases cmp_three k (topK a b) with e | e | e
      · rw [q2 k e, m.lookL k e]
      · rw [e, q1, ← m.lookM, hr]
      · rw [q3 k e, m.lookR k e]
    · rw [hl] at hy
      rcases List.mem_append.1 hy with hy | hy
      · exact m.keys1 y hy
      · rcases List.mem_cons.1 hy with rfl | hy
        · exact m.key
        · exact m.keys2 y hy
    · have := congrArg List.length hl
      simp only [List.length_append, List.length_cons, T.n_eq] at this
      have := m.tn
      omega
  | @closes o a b o1 o2 f a1 a2 g b1 b2 h t1 t2 t ks1 ks2 v n1 n2 n3 so sa sb r1 r2 hr hj hb ih1 ih2 =>
    intro So Sa Sb Bo Ba Bb Vo Va Vb
    obtain ⟨vo1, vo2⟩ := (so.sides So).valid hR.none Vo
    obtain ⟨va1, va2⟩ := (sa.sides Sa).valid hR.none Va
    obtain ⟨vb1, vb2⟩ := (sb.sides Sb).valid hR.none Vb
    have i1 := ih1 (so.sides So).asrt (sa.sides Sa).asrt (sb.sides Sb).asrt (so.bal Bo).1 (sa.bal Ba).1 (sb.bal Bb).1 vo1 va1 vb1
    have i2 := ih2 (so.sides So).bsrt (sa.sides Sa).bsrt (sb.sides Sb).bsrt (so.bal Bo).2 (sa.bal Ba).2 (sb.bal Bb).2 vo2 va2 vb2
    have m := Runs.mid n1 so sa sb So Sa Sb i1 i2
    have hl : t.list = t1.list ++ t2.list := hj.list m.s2
    obtain ⟨q1, q2, q3⟩ := look_two m.less m.more
    refine ⟨hb m.b1 m.b2, ?_, fun k => ?_, fun y hy => ?_, m.asked, m.once, m.few, ?_⟩
    · rw [hl]
      exact List.pairwise_append.2 ⟨m.s1, m.s2, fun x hx y hy => ord_B.trans _ _ _ (m.less x hx) (m.more y hy)⟩
    · rw [hl]
      rcases cmp_three k (topK a b) with e | e | e
      · rw [q2 k e, m.lookL k e]
      · rw [e, q1, ← m.lookM]
        exact (hR.norm _ _ _ _ (by rw [hr])).symm
      · rw [q3 k e, m.lookR k e]
    · rw [hl] at hy
      rcases List.mem_append.1 hy with hy | hy
      · exact m.keys1 y hy
      · exact m.keys2 y hy
    · have := congrArg List.length hl
      simp only [List.length_append, T.n_eq] at this
      have := m.tn
      omega
end Go.Proofs.YtkkpdgfllnbigaaGreat.Pm
namespace Go.Proofs.YtkkpdgfllnbigaaGreat.Pm
open Go.RowKit Go.Shelf
set_option linter.unusedSimpArgs false

theorem new4 (w : World) (o1 o2 o3 o4 : Obj) : ((((w.alloc o1).alloc o2).alloc o3).alloc o4).heap[w.heap.size]? = some o1 ∧ ((((w.alloc o1).alloc o2).alloc o3).alloc o4).heap[w.heap.size + 1]? = some o2 ∧ ((((w.alloc o1).alloc o2).alloc o3).alloc o4).heap[w.heap.size + 1 + 1]? = some o3 ∧ ((((w.alloc o1).alloc o2).alloc o3).alloc o4).heap[w.heap.size + 1 + 1 + 1]? = some o4 ∧ Below w.heap.size w ((((w.alloc o1).alloc o2).alloc o3).alloc o4) := by
  obtain ⟨m0, m1, m2, hb⟩ := new3 w o1 o2 o3
  have ba : Below (((w.alloc o1).alloc o2).alloc o3).heap.size (((w.alloc o1).alloc o2).alloc o3) ((((w.alloc o1).alloc o2).alloc o3).alloc o4) := (Below.refl _ _).alloc (Nat.le_refl _) _
  have h4 := heap_alloc_new (((w.alloc o1).alloc o2).alloc o3) o4
  have hs : (((w.alloc o1).alloc o2).alloc o3).heap.size = w.heap.size + 1 + 1 + 1 := by simp
  rw [hs] at h4
  exact ⟨(ba.block _ (by rw [hs]; omega)).trans m0, (ba.block _ (by rw [hs]; omega)).trans m1, (ba.block _ (by rw [hs]; omega)).trans m2, h4, hb.trans (ba.mono hb.size)⟩
/-- What the walk answers where it reads nothing. -/
def unread (o a b : T) : T := if a = b then a else if o = a then b else a
set_option maxHeartbeats 4000000 in
theorem run_unread (o a b : T) (u v x : Value) (w : World) (io : In w o) (ia : In w a) (ib : In w b) (h : a = b ∨ o = a ∨ o = b) : Calls Tryz.prog 223 #[mv o, mv a, mv b, u, v, x] w fun e w' => e = .returned (mv (unread o a b)) ∧ In w' (unread o a b) ∧ Below w.heap.size w w' := by
  obtain ⟨m0, m1, m2, m3, hb⟩ := new4 w (.cells #[o.ptr] 27) (.cells #[a.ptr] 27) (.cells #[b.ptr] 27) (.cells #[.pointer none] 27)
  have same : ∀ (s t : T) (W : World), Below w.heap.size w W → In w s → In w t → Calls Tryz.prog 79 #[mv s, mv t] W fun e w' => e = .returned (.bool (decide (s = t))) ∧ Below W.heap.size W w' := fun s t W hW is it => mSame_any s t W (In.below hW is) (In.below hW it)
  obtain ⟨po, ho⟩ := o.ptr_shape
  obtain ⟨pa, ha⟩ := a.ptr_shape
  obtain ⟨pb, hb'⟩ := b.ptr_shape
  rw [ho, ha, hb'] at m0 m1 m2 m3 hb
  have c1 := fun W hW => same a b W hW ia ib
  have c2 := fun W hW => same o a W hW io ia
  have c3 := fun W hW => same o b W hW io ib
  unfold mv at c1 c2 c3 ⊢
  rw [ha, hb'] at c1
  rw [ho, ha] at c2
  rw [ho, hb'] at c3
  rw [ho, ha, hb']
  obtain ⟨w0, hw0⟩ : ∃ w0, w0 = ((((w.alloc (.cells #[.pointer po] 27)).alloc (.cells #[.pointer pa] 27)).alloc (.cells #[.pointer pb] 27)).alloc (.cells #[.pointer none] 27)) := ⟨_, rfl⟩
  have HP := hide (And.intro ho (And.intro ha hb'))
  rw [← hw0] at m0 m1 m2 m3 hb
  -- what is told of a world behind w0
  have tell : ∀ W, Below w0.heap.size w0 W → W.cell? ⟨w.heap.size, 0, none⟩ = some (.pointer po) ∧ W.cell? ⟨w.heap.size + 1, 0, none⟩ = some (.pointer pa) ∧ W.cell? ⟨w.heap.size + 1 + 1, 0, none⟩ = some (.pointer pb) ∧ W.cell? ⟨w.heap.size + 1 + 1 + 1, 0, none⟩ = some (.pointer none) ∧ W.frozen? ⟨w.heap.size + 1 + 1 + 1, 0, none⟩ = false ∧ Hid (W.heap[w.heap.size + 1 + 1 + 1]? = some (.cells #[.pointer none] 27 (0, 0)) ∧ Below w.heap.size w W) := fun W hW => by
    have k0 := (hW.block _ (gI m0).1).trans m0
    have k1 := (hW.block _ (gI m1).1).trans m1
    have k2 := (hW.block _ (gI m2).1).trans m2
    have k3 := (hW.block _ (gI m3).1).trans m3
    exact ⟨(cell_of_row _ _ 0 _ 27 (0, 0) k0).trans rfl, (cell_of_row _ _ 0 _ 27 (0, 0) k1).trans rfl, (cell_of_row _ _ 0 _ 27 (0, 0) k2).trans rfl, (cell_of_row _ _ 0 _ 27 (0, 0) k3).trans rfl, frozen_of_row _ _ 0 _ 27 k3, hide ⟨k3, hb.trans (hW.mono hb.size)⟩⟩
  have HT := hide tell
  have fin : ∀ (W : World) (t : T) (pt : Option Addr), Below w0.heap.size w0 W → t.ptr = .pointer pt → In w t → (W.setCell ⟨w.heap.size + 1 + 1 + 1, 0, none⟩ (.pointer pt)).heap[w.heap.size + 1 + 1 + 1]? = some (.cells #[.pointer pt] 27 (0, 0)) ∧ In (W.setCell ⟨w.heap.size + 1 + 1 + 1, 0, none⟩ (.pointer pt)) t ∧ Below w.heap.size w (W.setCell ⟨w.heap.size + 1 + 1 + 1, 0, none⟩ (.pointer pt)) := fun W t pt hW hpt it => by
    obtain ⟨_, _, _, _, _, HH⟩ := tell W hW
    obtain ⟨o1, o2, o3⟩ := out_box (y := .pointer pt) HH.out.1 (by omega) HH.out.2
    exact ⟨o1, In.aside HH.out.1 o3 (In.below HH.out.2 it), o2⟩
  have HF := hide fin
  have HI := hide (And.intro io (And.intro ia ib))
  have hb0 := hide hb
  clear tell fin io ia ib m0 m1 m2 m3 hb same ho ha hb'
  by_cases e1 : a = b
  · simp only [decide_eq_true e1] at c1
    go_enter Tryz.func223, Tryz.ntmps223
    go_upto_region 1 with (fail)
    rw [← hw0]
    obtain ⟨t0, t1, t2, t3, t4, HH⟩ := HT.out w0 (Below.refl _ _)
    clear hw0
    go_upto_region 2 with (go_at_call 79; refine (c1 w0 hb0.out).mono ?_; rintro e w1 ⟨rfl, bb⟩; have b1 : Below w0.heap.size w0 w1 := bb; obtain ⟨s0, s1, s2, s3, s4, HHw1⟩ := HT.out w1 b1; clear HHw1 bb; replace b1 := hide b1; dsimp only)
    have HR := hide (HF.out w1 a pa b1.out HP.out.2.1 HI.out.2.1)
    clear HH
    go_wp2
    refine ret_row (w.heap.size + 1 + 1 + 1) [.pointer pa] rfl rfl Tryz.underlying27 rfl Tryz.info27 HR.out.1 rfl ?_
    have hu : unread o a b = a := by unfold unread; rw [if_pos e1]
    exact ⟨by rw [hu, HP.out.2.1], by rw [hu]; exact HR.out.2.1, HR.out.2.2⟩
  simp only [decide_eq_false e1] at c1
  by_cases e2 : o = a
  · simp only [decide_eq_true e2] at c2
    have tk : True := trivial
    go_enter Tryz.func223, Tryz.ntmps223
    go_upto_region 1 with (fail)
    rw [← hw0]
    obtain ⟨t0, t1, t2, t3, t4, HH⟩ := HT.out w0 (Below.refl _ _)
    clear hw0
    go_upto_region 4 with (first
      | (go_at_call 79; clear tk; refine (c1 w0 hb0.out).mono ?_; rintro e w1 ⟨rfl, bb⟩; have b1 : Below w0.heap.size w0 w1 := bb; obtain ⟨s0, s1, s2, s3, s4, HHw1⟩ := HT.out w1 b1; clear HHw1 bb; replace b1 := hide b1; dsimp only)
      | (go_at_call 79; refine (c2 w1 (hb0.out.trans (b1.out.mono hb0.out.size))).mono ?_; rintro e w2 ⟨rfl, bb⟩; have b2 : Below w0.heap.size w0 w2 := b1.out.trans (bb.mono b1.out.size); obtain ⟨s0, s1, s2, s3, s4, HHw2⟩ := HT.out w2 b2; clear HHw2 bb; replace b2 := hide b2; dsimp only))
    have HR := hide (HF.out w2 b pb b2.out HP.out.2.2 HI.out.2.2)
    clear HH
    go_wp2
    refine ret_row (w.heap.size + 1 + 1 + 1) [.pointer pb] rfl rfl Tryz.underlying27 rfl Tryz.info27 HR.out.1 rfl ?_
    have hu : unread o a b = b := by unfold unread; rw [if_neg e1, if_pos e2]
    exact ⟨by rw [hu, HP.out.2.2], by rw [hu]; exact HR.out.2.1, HR.out.2.2⟩
  simp only [decide_eq_false e2] at c2
  have e3 : o = b := by rcases h with h | h | h <;> first | exact (e1 h).elim | exact (e2 h).elim | exact h
  simp only [decide_eq_true e3] at c3
  have tk : True := trivial
  have tk2 : True ∧ True := ⟨trivial, trivial⟩
  go_enter Tryz.func223, Tryz.ntmps223
  go_upto_region 1 with (fail)
  rw [← hw0]
  obtain ⟨t0, t1, t2, t3, t4, HH⟩ := HT.out w0 (Below.refl _ _)
  clear hw0
  go_upto_region 6 with (first
    | (go_at_call 79; clear tk; refine (c1 w0 hb0.out).mono ?_; rintro e w1 ⟨rfl, bb⟩; have b1 : Below w0.heap.size w0 w1 := bb; obtain ⟨s0, s1, s2, s3, s4, HHw1⟩ := HT.out w1 b1; clear HHw1 bb; replace b1 := hide b1; dsimp only)
    | (go_at_call 79; clear tk2; refine (c2 w1 (hb0.out.trans (b1.out.mono hb0.out.size))).mono ?_; rintro e w2 ⟨rfl, bb⟩; have b2 : Below w0.heap.size w0 w2 := b1.out.trans (bb.mono b1.out.size); obtain ⟨s0, s1, s2, s3, s4, HHw2⟩ := HT.out w2 b2; clear HHw2 bb; replace b2 := hide b2; dsimp only)
    | (go_at_call 79; refine (c3 w2 (hb0.out.trans (b2.out.mono hb0.out.size))).mono ?_; rintro e w3 ⟨rfl, bb⟩; have b3 : Below w0.heap.size w0 w3 := b2.out.trans (bb.mono b2.out.size); obtain ⟨s0, s1, s2, s3, s4, HHw3⟩ := HT.out w3 b3; clear HHw3 bb; replace b3 := hide b3; dsimp only))
  have HR := hide (HF.out w3 a pa b3.out HP.out.2.1 HI.out.2.1)
  clear HH
  go_wp2
  refine ret_row (w.heap.size + 1 + 1 + 1) [.pointer pa] rfl rfl Tryz.underlying27 rfl Tryz.info27 HR.out.1 rfl ?_
  have hu : unread o a b = a := by unfold unread; rw [if_neg e1, if_neg e2]
  exact ⟨by rw [hu, HP.out.2.1], by rw [hu]; exact HR.out.2.1, HR.out.2.2⟩
end Go.Proofs.YtkkpdgfllnbigaaGreat.Pm
