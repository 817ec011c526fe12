/-
  queue: Pop (65).
  queue: Drop (74).
-/
import Derived.Test.YtkkpdgfllnbigaaGreatQuF
import Derived.Test.YtkkpdgfllnbigaaGreatMg15
namespace Go.Proofs.YtkkpdgfllnbigaaGreat.Qu
open Go.RowKit Go.Shelf
set_option linter.unusedSimpArgs false
attribute [local go_sem] Oper.semAt_some

theorem In.apart53 {w w' : World} {B : Nat} {cs : Array Value} {t : Pm.T} (hw : w.heap[B]? = some (.cells cs 53 (0, 0))) (ho : Only (fun j => j = B) w w') (h : Pm.In w t) : Pm.In w' t :=
  Pm.In.typed ho (fun j e o hj => by have e' : j = B := e; subst e'; rw [hw] at hj; cases hj; exact ⟨_, _, _, rfl, by decide⟩) h
theorem _root_.Go.Proofs.YtkkpdgfllnbigaaGreat.Mg.apart53 {w w' : World} {B : Nat} {cs : Array Value} {t : Pm.T} (h : Mg w t) (hw : w.heap[B]? = some (.cells cs 53 (0, 0))) (ho : Only (fun j => j = B) w w') : Mg w' t := ⟨In.apart53 hw ho h.inn, h.srt, h.bal, h.few, h.key⟩
theorem first_node {t : Pm.T} {k v : ByteArray} {rest : List Kv} (hl : t.list = (k, v) :: rest) : t.first.key = k ∧ t.first.val = v ∧ t.first.isSome = true := by
  have hne : t ≠ .nil := fun e => by rw [e] at hl; cases hl
  obtain ⟨p, k', v', r, rest', hf, hl', -⟩ := Pm.T.first_spec hne
  rw [hl] at hl'
  cases hl'
  rw [hf]
  exact ⟨rfl, rfl, rfl⟩
theorem mg_take {w w' : World} {t t' : Pm.T} {k v : ByteArray} {rest : List Kv} (h : Mg w t) (hl : t.list = (k, v) :: rest) (ht : Pm.Takes w.heap.size k t t') (hi : Pm.In w' t') : Mg w' t' ∧ t'.list = rest := by
  have hd := ht.list h.srt
  have he : Pm.del k t.list = rest := by rw [hl]; exact Pm.del_same (a := []) (by simp)
  rw [he] at hd
  refine ⟨⟨hi, ?_, (ht.says h.srt h.bal h.inn.underP).bal, ?_, ?_⟩, hd⟩
  · rw [hd]
    have := h.srt
    rw [hl] at this
    exact (List.pairwise_cons.1 this).2
  · have := Pm.Takes.n ht
    have := h.few
    omega
  · intro x hx
    rw [hd] at hx
    exact h.key x (by rw [hl]; exact List.mem_cons_of_mem _ hx)
theorem takeP {w : World} {t : Pm.T} {pm : Option Addr} {k v : ByteArray} {rest : List Kv} (h : Mg w t) (hp : t.ptr = .pointer pm) (hl : t.list = (k, v) :: rest) : Calls Tryz.prog 131 #[.agg #[.pointer pm], .string k] w fun e w' => ∃ t' pt, t'.ptr = .pointer pt ∧ e = .returned (.agg #[.pointer pt]) ∧ Mg w' t' ∧ t'.list = rest ∧ Below w.heap.size w w' := by
  have := Pm.mTake_any t k w h.inn (by have := h.few; omega)
  unfold Pm.mv at this
  rw [hp] at this
  refine this.mono (fun e w' ⟨t', he, hi, ht, hb⟩ => ?_)
  obtain ⟨pt, hpt⟩ := t'.ptr_shape
  rw [hpt] at he
  exact ⟨t', pt, hpt, he, (mg_take h hl ht hi).1, (mg_take h hl ht hi).2, hb⟩
theorem mFirstP {w : World} {t : Pm.T} {pm : Option Addr} {k v : ByteArray} {rest : List Kv} (h : Mg w t) (hp : t.ptr = .pointer pm) (hl : t.list = (k, v) :: rest) : Calls Tryz.prog 145 #[.agg #[.pointer pm]] w fun e w' => e = .returned (.tuple #[.string k, .string v, .bool true]) ∧ Below w.heap.size w w' := by
  have := Pm.mFirst_any t w h.inn
  unfold Pm.mv at this
  rw [hp, (first_node hl).1, (first_node hl).2.1, (first_node hl).2.2] at this
  exact this
theorem qFirstP {w : World} {t : Pm.T} {pm : Option Addr} (h : Mg w t) (hp : t.ptr = .pointer pm) : Calls Tryz.prog 77 #[.agg #[.pointer pm]] w fun e w' => e = .returned (.tuple #[ev (firstE (elsL t.list)).1, .bool (firstE (elsL t.list)).2]) ∧ Below w.heap.size w w' := by
  have := qFirst_any t w h
  unfold Pm.mv at this
  rw [hp] at this
  exact this
theorem cells_of_enc {W : World} {B : Nat} {g r : Int} {lb : ByteArray} {n ix : Int} {X : ByteArray} (h : W.heap[B]? = some (.cells #[.int .i64 g, .int .i64 r, .string lb, .int .i64 n, .int .i64 ix, .string X] 53 (0, 0))) : W.cell? ⟨B, 0, none⟩ = some (.int .i64 g) ∧ W.cell? ⟨B, 1, none⟩ = some (.int .i64 r) ∧ W.cell? ⟨B, 2, none⟩ = some (.string lb) ∧ W.cell? ⟨B, 3, none⟩ = some (.int .i64 n) ∧ W.cell? ⟨B, 4, none⟩ = some (.int .i64 ix) ∧ W.cell? ⟨B, 5, none⟩ = some (.string X) :=
  ⟨(cell_of_row _ _ 0 _ 53 (0, 0) h).trans rfl, (cell_of_row _ _ 1 _ 53 (0, 0) h).trans rfl, (cell_of_row _ _ 2 _ 53 (0, 0) h).trans rfl, (cell_of_row _ _ 3 _ 53 (0, 0) h).trans rfl, (cell_of_row _ _ 4 _ 53 (0, 0) h).trans rfl, (cell_of_row _ _ 5 _ 53 (0, 0) h).trans rfl⟩
def PopE (w : World) (t : Pm.T) (e : Ending) (w' : World) : Prop := ∃ t' pt, t'.ptr = .pointer pt ∧ e = .returned (.tuple #[.agg #[.pointer pt], ev (firstE (elsL t.list)).1, .bool (firstE (elsL t.list)).2]) ∧ Mg w' t' ∧ (t'.list = if mayL t.list = true then t.list.tail else t.list) ∧ ((firstE (elsL t.list)).2 = false → t' = t) ∧ Below w.heap.size w w'
set_option maxHeartbeats 8000000 in
set_option maxRecDepth 100000 in
theorem qPop_any {w : World} {t : Pm.T} {pm : Option Addr} (h : Mg w t) (hp : t.ptr = .pointer pm) : Calls Tryz.prog 69 #[.agg #[.pointer pm]] w (PopE w t) := by
  obtain ⟨w0, hw0⟩ : ∃ q, q = ((w.alloc (.cells #[.pointer pm] 27)).alloc (.cells #[.pointer none] 27)).alloc (.cells #[.int .i64 0, .int .i64 0, .string ⟨#[]⟩, .int .i64 0, .int .i64 0, .string ⟨#[]⟩] 53) := ⟨_, rfl⟩
  obtain ⟨m0, m1, m2, b0⟩ := new4r w _ _ _ w0 hw0
  obtain ⟨Mb, hMb⟩ : ∃ q, q = w.heap.size := ⟨_, rfl⟩
  obtain ⟨Rb, hRb⟩ : ∃ q, q = w.heap.size + 1 := ⟨_, rfl⟩
  obtain ⟨Eb, hEb⟩ : ∃ q, q = w.heap.size + 1 + 1 := ⟨_, rfl⟩
  have s0 : w0.heap.size = w.heap.size + 3 := by rw [hw0]; simp
  rw [← hMb] at m0
  rw [← hRb] at m1
  rw [← hEb] at m2
  have HC : Hid (∀ W, Below w0.heap.size w0 W → W.cell? ⟨Mb, 0, none⟩ = some (.pointer pm) ∧ W.heap[Rb]? = some (.cells #[.pointer none] 27 (0, 0)) ∧ W.heap[Eb]? = some (.cells #[.int .i64 0, .int .i64 0, .string ⟨#[]⟩, .int .i64 0, .int .i64 0, .string ⟨#[]⟩] 53 (0, 0)) ∧ Below w.heap.size w W) := hide (fun W hW => ⟨cell_stays ((cell_of_row _ _ 0 _ 27 (0, 0) m0).trans rfl) hW, (hW.block _ (Array.getElem?_eq_some_iff.1 m1).1).trans m1, (hW.block _ (Array.getElem?_eq_some_iff.1 m2).1).trans m2, b0.trans (hW.mono b0.size)⟩)
  have HW0 := hide (And.intro hw0 (And.intro hEb (And.intro hRb hMb)))
  have hfst := fun W (hW : Below w0.heap.size w0 W) => qFirstP (h.below (b0.trans (hW.mono b0.size))) hp
  have HH := hide (And.intro h hp)
  obtain ⟨c0, -⟩ := HC.out w0 (Below.refl _ _)
  have HL0 : Hid (w0.heap.size = w.heap.size + 3 ∧ Mb = w.heap.size ∧ Rb = w.heap.size + 1 ∧ Eb = w.heap.size + 2) := hide ⟨s0, hMb, hRb, hEb⟩
  cases hb : (firstE (elsL t.list)).2 with
  | false =>
    have hz1 : (firstE (elsL t.list)).1 = zE := by
      revert hb
      cases elsL t.list with
      | nil => intro _; rfl
      | cons x l => intro hb; cases hb
    have hFE : firstE (elsL t.list) = (zE, false) := Prod.ext hz1 hb
    have hemp : (if mayL t.list = true then t.list.tail else t.list) = t.list := by
      by_cases hm : mayL t.list = true
      · rw [if_pos hm]
        cases hl : t.list with
        | nil => rfl
        | cons x l => rw [hl] at hb hm; rw [elsL, if_pos hm] at hb; cases hb
      · rw [if_neg hm]
    rw [hz1, hb] at hfst
    have HFE := hide (And.intro hFE hemp)
    clear h hp m0 m1 m2 b0 hw0 hMb hRb hEb s0 hb hz1 hFE hemp
    dsimp only [ev, zE] at hfst
    go_enter Tryz.func69, Tryz.ntmps69
    go_upto_region 1 with fail
    rw [← HW0.out.1, ← HW0.out.2.1, ← HW0.out.2.2.1, ← HW0.out.2.2.2]
    go_upto_region 3 with (go_at_call 77; refine (hfst _ (Below.refl _ _)).mono ?_; rintro e w1 ⟨rfl, b1⟩; have H1 := hide b1; clear b1; dsimp only)
    obtain ⟨w2, hw2⟩ : ∃ q, q = w1.alloc (.cells #[.int .i64 0, .int .i64 0, .string ⟨#[]⟩, .int .i64 0, .int .i64 0, .string ⟨#[]⟩] 53) := ⟨_, rfl⟩
    have b2 : Below w0.heap.size w0 w2 := H1.out.trans ((by rw [hw2]; exact (Below.refl _ w1).alloc (Nat.le_refl _) _ : Below w1.heap.size w1 w2).mono H1.out.size)
    rw [← hw2]
    obtain ⟨x0, r5, e5, bw5⟩ := HC.out w2 b2
    obtain ⟨z1, z2, z3, z4⟩ := HL0.out
    obtain ⟨u6, o6⟩ := set_one (i := 0) (.pointer pm) r5
    have e6 := (o6.block _ (Array.getElem?_eq_some_iff.1 e5).1 (fun e => by have e' : Eb = Rb := e; omega)).trans e5
    obtain ⟨u7, o7⟩ := set6 (.int .i64 0) (.int .i64 0) (.string ⟨#[]⟩) (.int .i64 0) (.int .i64 0) (.string ⟨#[]⟩) e6
    have u6' := (o7.block _ (Array.getElem?_eq_some_iff.1 u6).1 (fun e => by have e' : Rb = Eb := e; omega)).trans u6
    have q7 := Below.only bw5 o6 bw5.size (fun j e => by have e' : j = Rb := e; omega)
    have b7 := Below.only q7 o7 q7.size (fun j e => by have e' : j = Eb := e; omega)
    have HE := hide (And.intro u6' (And.intro u7 (And.intro b7 (HH.out.1.below b7))))
    have c1 : w2.cell? ⟨Rb, 0, none⟩ = some (.pointer none) := (cell_of_row _ _ 0 _ 27 (0, 0) r5).trans rfl
    have f1 : w2.frozen? ⟨Rb, 0, none⟩ = false := frozen_of_row _ _ 0 _ 27 r5
    obtain ⟨d0, d1, d2, d3, d4, d5⟩ := cells_of_enc e5
    have g0 := frozen_of_row w2 Eb 0 _ 53 e5
    have g1 := frozen_of_row w2 Eb 1 _ 53 e5
    have g2 := frozen_of_row w2 Eb 2 _ 53 e5
    have g3 := frozen_of_row w2 Eb 3 _ 53 e5
    have g4 := frozen_of_row w2 Eb 4 _ 53 e5
    have g5 := frozen_of_row w2 Eb 5 _ 53 e5
    have ne1 : ¬ Rb = Eb := by omega
    have ne2 : ¬ Eb = Rb := by omega
    clear u6 o6 u7 o7 e6 r5 e5 bw5 u6' q7 b7 z1 z2 z3 z4 b2 hw2 hfst c0
    go_wp2
    refine Pm.ret_rr_t Rb Eb [.pointer pm] [.int .i64 0, .int .i64 0, .string ⟨#[]⟩, .int .i64 0, .int .i64 0, .string ⟨#[]⟩] rfl rfl rfl rfl Tryz.underlying27 rfl Tryz.underlying53 rfl T27 T53 (by simpa using HE.out.1) HE.out.2.1 rfl ?_
    exact ⟨t, pm, HH.out.2, by rw [HFE.out.1]; rfl, HE.out.2.2.2, HFE.out.2.symm, fun _ => rfl, HE.out.2.2.1⟩
  | true =>
    have hm : mayL t.list = true := by
      by_cases hm : mayL t.list = true
      · exact hm
      · rw [elsL, if_neg hm] at hb; cases hb
    obtain ⟨k, v, rest, hl⟩ : ∃ k v rest, t.list = (k, v) :: rest := by
      cases hl : t.list with
      | nil => rw [hl] at hb; cases hb
      | cons x l => exact ⟨x.1, x.2, l, rfl⟩
    have hFE : firstE (elsL t.list) = ((ofT k, v), true) := by rw [elsL, if_pos hm, hl]; rfl
    have hmf := fun W (hW : Below w0.heap.size w0 W) => mFirstP (h.below (b0.trans (hW.mono b0.size))) hp hl
    have htk := fun W (hW : Below w0.heap.size w0 W) => takeP (h.below (b0.trans (hW.mono b0.size))) hp hl
    have HLL : Hid (mayL t.list = true ∧ t.list = (k, v) :: rest) := hide ⟨hm, hl⟩
    obtain ⟨g, r, lb, n, ix, hof⟩ : ∃ g r lb n ix, ofT k = (g, r, lb, n, ix) := ⟨_, _, _, _, _, rfl⟩
    obtain ⟨X, hX⟩ : ∃ X, X = v := ⟨_, rfl⟩
    rw [hof, ← hX] at hFE
    rw [hFE] at hfst
    have HFE := hide hFE
    have HTK := hide htk
    clear h hp m0 m1 m2 b0 hw0 hMb hRb hEb s0 hb hFE hm hl hof hX htk
    dsimp only [ev] at hfst
    go_enter Tryz.func69, Tryz.ntmps69
    go_upto_region 1 with fail
    rw [← HW0.out.1, ← HW0.out.2.1, ← HW0.out.2.2.1, ← HW0.out.2.2.2]
    go_upto_region 4 with (go_at_call 77; refine (hfst _ (Below.refl _ _)).mono ?_; rintro e w1 ⟨rfl, b1⟩; have H1 := hide b1; clear b1; dsimp only)
    obtain ⟨Fb, hFb⟩ : ∃ q, q = w1.heap.size := ⟨_, rfl⟩
    obtain ⟨w2, hw2⟩ : ∃ q, q = w1.alloc (.cells #[.int .i64 g, .int .i64 r, .string lb, .int .i64 n, .int .i64 ix, .string X] 53) := ⟨_, rfl⟩
    have b12 : Below w1.heap.size w1 w2 := by rw [hw2]; exact (Below.refl _ w1).alloc (Nat.le_refl _) _
    have b2 : Below w0.heap.size w0 w2 := H1.out.trans (b12.mono H1.out.size)
    have r2 := heap_alloc_new w1 (.cells #[.int .i64 g, .int .i64 r, .string lb, .int .i64 n, .int .i64 ix, .string X] 53)
    rw [← hw2, ← hFb] at r2
    rw [← hw2, ← hFb]
    have x0 := (HC.out w2 b2).1
    have HZ : Hid (w0.heap.size = w.heap.size + 3 ∧ Mb = w.heap.size ∧ Rb = w.heap.size + 1 ∧ Eb = w.heap.size + 2 ∧ w0.heap.size ≤ Fb ∧ True) := hide ⟨HL0.out.1, HL0.out.2.1, HL0.out.2.2.1, HL0.out.2.2.2, by rw [hFb]; exact H1.out.size, trivial⟩
    have H2 := hide (And.intro b2 r2)
    clear hfst c0 hFb hw2 b12 b2 r2 H1
    go_upto_region 5 with (go_at_call 145; refine (hmf _ H2.out.1).mono ?_; rintro e w4 ⟨rfl, b4⟩; have H4 := hide (H2.out.1.trans (b4.mono H2.out.1.size)); have HB4 := hide b4; clear b4; dsimp only)
    have HF4 : Hid (∀ W, Below w4.heap.size w4 W → W.heap[Fb]? = some (.cells #[.int .i64 g, .int .i64 r, .string lb, .int .i64 n, .int .i64 ix, .string X] 53 (0, 0))) := hide (fun W hW => by
      have q := (HB4.out.block _ (Array.getElem?_eq_some_iff.1 H2.out.2).1).trans H2.out.2
      exact (hW.block _ (Array.getElem?_eq_some_iff.1 q).1).trans q)
    have HT4 : Hid (∀ W, Below w4.heap.size w4 W → Calls Tryz.prog 131 #[.agg #[.pointer pm], .string k] W fun e w' => ∃ t' pt, t'.ptr = .pointer pt ∧ e = .returned (.agg #[.pointer pt]) ∧ Mg w' t' ∧ t'.list = rest ∧ Below W.heap.size W w') := hide (fun W hW => HTK.out W (H4.out.trans (hW.mono H4.out.size)))
    clear hmf x0 HTK
    refine wp_region_held_drew (S := fun w' => w'.cell? ⟨Mb, 0, none⟩ = some (.pointer pm) ∧ w'.cell? ⟨Fb, 0, none⟩ = some (.int .i64 g) ∧ w'.cell? ⟨Fb, 1, none⟩ = some (.int .i64 r) ∧ w'.cell? ⟨Fb, 2, none⟩ = some (.string lb) ∧ w'.cell? ⟨Fb, 3, none⟩ = some (.int .i64 n) ∧ w'.cell? ⟨Fb, 4, none⟩ = some (.int .i64 ix) ∧ w'.cell? ⟨Fb, 5, none⟩ = some (.string X)) (by kernel_rfl) (by exact ⟨(HC.out _ ((H4.out).trans ((drew_below w4).mono H4.out.size))).1, cells_of_enc (HF4.out _ (drew_below w4))⟩) (fun hHeld => ?_)
    try dsimp only at hHeld
    have b4d := H4.out.trans ((drew_below w4).mono H4.out.size)
    have F4d := HF4.out _ (drew_below w4)
    have T4d := HT4.out _ (drew_below w4)
    generalize w4.drew = Wd at hHeld b4d F4d T4d ⊢
    refine take_op (i := 0) (d := 25) (OP := Op.load 27 (Operand.tmp 1)) (T := 27) (v := ?vzp1) rfl rfl rfl rfl (by kernel_rfl) (by kernel_rfl) (by kernel_rfl) (fun _ _ _ h => h) (by rfl) ?hzp1 hHeld ?rzp1
    case hzp1 => (intro w' hSw; (try dsimp only at hSw); go_simp <;> with_reducible rfl)
    try simp only [Act.put, List.setIfInBounds_toArray, List.set_cons_zero, List.set_cons_succ]
    refine take_op (i := 1) (d := 26) (OP := Op.move (Operand.tmp 7)) (T := 9) (v := ?vzp2) rfl rfl rfl rfl (by kernel_rfl) (by kernel_rfl) (by kernel_rfl) (fun _ _ _ h => h) (by rfl) ?hzp2 hHeld ?rzp2
    case hzp2 => (intro w' hSw; (try dsimp only at hSw); go_simp <;> with_reducible rfl)
    try simp only [Act.put, List.setIfInBounds_toArray, List.set_cons_zero, List.set_cons_succ]
    refine take_op (i := 3) (d := 28) (OP := Op.load 53 (Operand.tmp 5)) (T := 53) (v := ?vzp3) rfl rfl rfl rfl (by kernel_rfl) (by kernel_rfl) (by kernel_rfl) (fun _ _ _ h => h) (by rfl) ?hzp3 hHeld ?rzp3
    case hzp3 => (intro w' hSw; (try dsimp only at hSw); go_simp <;> with_reducible rfl)
    try simp only [Act.put, List.setIfInBounds_toArray, List.set_cons_zero, List.set_cons_succ]
    refine call_op (i := 2) (d := 27) (OP := Op.call { callee := Callee.value (Operand.func 131), args := #[Operand.tmp 25, Operand.tmp 26], argTypes := #[27, 9] }) (T := 27) (f := 131) (args := #[.agg #[.pointer pm], .string k]) rfl rfl rfl rfl (by kernel_rfl) (by rfl) (by go_simp) ?_
    refine T4d.mono ?_
    rintro e w5 ⟨t', pt, hpt, rfl, mg5, hl5, b5⟩
    have bb5 := b4d.trans (b5.mono b4d.size)
    have F5 := (b5.block _ (Array.getElem?_eq_some_iff.1 F4d).1).trans F4d
    have h5 : w5.cell? ⟨Mb, 0, none⟩ = some (.pointer pm) ∧ w5.cell? ⟨Fb, 0, none⟩ = some (.int .i64 g) ∧ w5.cell? ⟨Fb, 1, none⟩ = some (.int .i64 r) ∧ w5.cell? ⟨Fb, 2, none⟩ = some (.string lb) ∧ w5.cell? ⟨Fb, 3, none⟩ = some (.int .i64 n) ∧ w5.cell? ⟨Fb, 4, none⟩ = some (.int .i64 ix) ∧ w5.cell? ⟨Fb, 5, none⟩ = some (.string X) := ⟨(HC.out _ bb5).1, cells_of_enc F5⟩
    obtain ⟨-, r5, e5, bw5⟩ := HC.out _ bb5
    refine ⟨_, rfl, h5, ?_⟩
    try simp only [Act.put, List.setIfInBounds_toArray, List.set_cons_zero, List.set_cons_succ]
    obtain ⟨u6, o6⟩ := set_one (i := 0) (.pointer pt) r5
    obtain ⟨z1, z2, z3, z4, z5, z6⟩ := HZ.out
    have e6 := (o6.block _ (Array.getElem?_eq_some_iff.1 e5).1 (fun e => by have e' : Eb = Rb := e; omega)).trans e5
    obtain ⟨u7, o7⟩ := set6 (.int .i64 g) (.int .i64 r) (.string lb) (.int .i64 n) (.int .i64 ix) (.string X) e6
    obtain ⟨w6, hw6⟩ : ∃ q, q = w5.setCell ⟨Rb, 0, none⟩ (.pointer pt) := ⟨_, rfl⟩
    rw [← hw6] at u6 o6 e6 u7 o7
    obtain ⟨w7, hw7⟩ : ∃ q, q = ((((((w6.setCell ⟨Eb, 0, none⟩ (.int .i64 g)).setCell ⟨Eb, 1, none⟩ (.int .i64 r)).setCell ⟨Eb, 2, none⟩ (.string lb)).setCell ⟨Eb, 3, none⟩ (.int .i64 n)).setCell ⟨Eb, 4, none⟩ (.int .i64 ix)).setCell ⟨Eb, 5, none⟩ (.string X)) := ⟨_, rfl⟩
    rw [← hw7] at u7 o7
    have hb1 : Mb ≠ Rb := by omega
    have hb2 : Fb ≠ Rb := by omega
    have hb3 : Mb ≠ Eb := by omega
    have hb4 : Fb ≠ Eb := by omega
    have h6 : w6.cell? ⟨Mb, 0, none⟩ = some (.pointer pm) ∧ w6.cell? ⟨Fb, 0, none⟩ = some (.int .i64 g) ∧ w6.cell? ⟨Fb, 1, none⟩ = some (.int .i64 r) ∧ w6.cell? ⟨Fb, 2, none⟩ = some (.string lb) ∧ w6.cell? ⟨Fb, 3, none⟩ = some (.int .i64 n) ∧ w6.cell? ⟨Fb, 4, none⟩ = some (.int .i64 ix) ∧ w6.cell? ⟨Fb, 5, none⟩ = some (.string X) := ⟨o6.cell h5.1 hb1, o6.cell h5.2.1 hb2, o6.cell h5.2.2.1 hb2, o6.cell h5.2.2.2.1 hb2, o6.cell h5.2.2.2.2.1 hb2, o6.cell h5.2.2.2.2.2.1 hb2, o6.cell h5.2.2.2.2.2.2 hb2⟩
    have h7 : w7.cell? ⟨Mb, 0, none⟩ = some (.pointer pm) ∧ w7.cell? ⟨Fb, 0, none⟩ = some (.int .i64 g) ∧ w7.cell? ⟨Fb, 1, none⟩ = some (.int .i64 r) ∧ w7.cell? ⟨Fb, 2, none⟩ = some (.string lb) ∧ w7.cell? ⟨Fb, 3, none⟩ = some (.int .i64 n) ∧ w7.cell? ⟨Fb, 4, none⟩ = some (.int .i64 ix) ∧ w7.cell? ⟨Fb, 5, none⟩ = some (.string X) := ⟨o7.cell h6.1 hb3, o7.cell h6.2.1 hb4, o7.cell h6.2.2.1 hb4, o7.cell h6.2.2.2.1 hb4, o7.cell h6.2.2.2.2.1 hb4, o7.cell h6.2.2.2.2.2.1 hb4, o7.cell h6.2.2.2.2.2.2 hb4⟩
    refine skip_op (i := 4) (OP := Op.store 27 (Operand.tmp 2) (Operand.tmp 27)) (T := 0) (w' := w6) rfl rfl rfl rfl (by kernel_rfl) (by rfl) (by rw [hw6]; exact exec_st27 rfl rfl ((cell_of_row _ _ 0 _ 27 (0, 0) r5).trans rfl) (frozen_of_row _ _ 0 _ 27 r5)) ⟨h6, ?_⟩
    try simp only [Act.put, List.setIfInBounds_toArray, List.set_cons_zero, List.set_cons_succ]
    refine skip_op (i := 5) (OP := Op.store 53 (Operand.tmp 3) (Operand.tmp 28)) (T := 0) (w' := w7) rfl rfl rfl rfl (by kernel_rfl) (by rfl) (by rw [hw7]; exact exec_st53 rfl rfl e6) ⟨h7, ?_⟩
    try simp only [Act.put, List.setIfInBounds_toArray, List.set_cons_zero, List.set_cons_succ]
    refine take_op (i := 6) (d := 4) (OP := Op.assign (Operand.const (Value.bool true))) (T := 4) (v := ?vzp4) rfl rfl rfl rfl (by kernel_rfl) (by kernel_rfl) (by kernel_rfl) (fun _ _ _ h => h) (by rfl) ?hzp4 h7 ?rzp4
    case hzp4 => (intro w' hSw; (try dsimp only at hSw); go_simp <;> with_reducible rfl)
    try simp only [Act.put, List.setIfInBounds_toArray, List.set_cons_zero, List.set_cons_succ]
    refine wpAnyH_done (by kernel_rfl) ?_ _
    have u6' := (o7.block _ (Array.getElem?_eq_some_iff.1 u6).1 (fun e => by have e' : Rb = Eb := e; omega)).trans u6
    have b7 : Below w.heap.size w w7 := by
      have q := Below.only bw5 o6 bw5.size (fun j e => by have e' : j = Rb := e; omega)
      exact Below.only q o7 q.size (fun j e => by have e' : j = Eb := e; omega)
    have mg7 : Mg w7 t' := (mg5.aside r5 o6).apart53 e6 o7
    have HE := hide (And.intro u6' (And.intro u7 (And.intro b7 (And.intro mg7 (And.intro hl5 hpt)))))
    clear u6 o6 u7 o7 e6 r5 e5 h5 h6 h7 hHeld F5 F4d b7 mg7 mg5 hl5 u6' bw5 b5 bb5 z1 z2 z3 z4 z5 z6 hb1 hb2 hb3 hb4 hw6 hw7 T4d b4d
    go_wp2
    refine Pm.ret_rr_t Rb Eb [.pointer pt] [.int .i64 g, .int .i64 r, .string lb, .int .i64 n, .int .i64 ix, .string X] rfl rfl rfl rfl Tryz.underlying27 rfl Tryz.underlying53 rfl T27 T53 (by simpa using HE.out.1) HE.out.2.1 rfl ?_
    exact ⟨t', pt, HE.out.2.2.2.2.2, by rw [HFE.out]; rfl, HE.out.2.2.2.1, (by rw [if_pos HLL.out.1, HLL.out.2, HE.out.2.2.2.2.1]; rfl), (fun hh => (by rw [HFE.out] at hh; exact Bool.noConfusion hh)), HE.out.2.2.1⟩
end Go.Proofs.YtkkpdgfllnbigaaGreat.Qu
namespace Go.Proofs.YtkkpdgfllnbigaaGreat.Qu
open Go.RowKit Go.Shelf
set_option linter.unusedSimpArgs false
attribute [local go_sem] Oper.semAt_some

theorem lenQ {w : World} {t : Pm.T} {pt : Option Addr} (h : Mg w t) (hp : t.ptr = .pointer pt) : Calls Tryz.prog 21 #[.agg #[.pointer pt]] w fun e w' => e = .returned (.int .i64 (t.n : Nat)) ∧ Below w.heap.size w w' := by
  have := Pm.mLen_any t w h.inn
  unfold Pm.mv at this
  rw [hp] at this
  exact this
/-- How many are dropped. -/
def dropN (l : List Kv) (n : Int) : Nat := if mayL l = true then (max 0 (min n (l.length : Int))).toNat else 0
def DropE (w : World) (t : Pm.T) (n : Int) (e : Ending) (w' : World) : Prop := ∃ t' pt, t'.ptr = .pointer pt ∧ e = .returned (.tuple #[.agg #[.pointer pt], .int .i64 (dropN t.list n : Nat)]) ∧ Mg w' t' ∧ t'.list = t.list.drop (dropN t.list n) ∧ (mayL t.list = false → t' = t) ∧ Below w.heap.size w w'
set_option maxHeartbeats 8000000 in
set_option maxRecDepth 100000 in
theorem qDrop_any {w : World} {t : Pm.T} {pm : Option Addr} (n : Int) (h : Mg w t) (hp : t.ptr = .pointer pm) : Calls Tryz.prog 78 #[.agg #[.pointer pm], .int .i64 n] w (DropE w t n) := by
  have mixed : Tryz.prog.follows .mixedOrders = true := by kernel_rfl
  obtain ⟨w0, hw0⟩ : ∃ q, q = (w.alloc (.cells #[.pointer pm] 27)).alloc (.cells #[.pointer none] 27) := ⟨_, rfl⟩
  obtain ⟨m0, m1⟩ := new2 w (.cells #[.pointer pm] 27) (.cells #[.pointer none] 27)
  have b0 : Below w.heap.size w ((w.alloc (.cells #[.pointer pm] 27)).alloc (.cells #[.pointer none] 27)) := ((Below.refl _ w).alloc (Nat.le_refl _) _).alloc (by simp) _
  rw [← hw0] at m0 m1 b0
  obtain ⟨Mb, hMb⟩ : ∃ q, q = w.heap.size := ⟨_, rfl⟩
  obtain ⟨Rb, hRb⟩ : ∃ q, q = w.heap.size + 1 := ⟨_, rfl⟩
  rw [← hMb] at m0
  rw [← hRb] at m1
  have HC : Hid (∀ W, Below w0.heap.size w0 W → Boxd W Mb pm t ∧ W.heap[Rb]? = some (.cells #[.pointer none] 27 (0, 0)) ∧ Below w.heap.size w W) := hide (fun W hW => ⟨⟨(hW.block _ (Array.getElem?_eq_some_iff.1 m0).1).trans m0, hp, h.below (b0.trans (hW.mono b0.size))⟩, (hW.block _ (Array.getElem?_eq_some_iff.1 m1).1).trans m1, b0.trans (hW.mono b0.size)⟩)
  have HW0 := hide (And.intro hw0 (And.intro hRb hMb))
  have HZ : Hid (Mb = w.heap.size ∧ Rb = w.heap.size + 1) := hide ⟨hMb, hRb⟩
  have hmy := mayP h hp w0 b0
  have c0 := (HC.out w0 (Below.refl _ _)).1.cell
  have HH := hide (And.intro h hp)
  cases hm : mayL t.list with
  | false =>
    rw [hm] at hmy
    have HM := hide hm
    have hd0 : dropN t.list n = 0 := by unfold dropN; rw [hm]; rfl
    have HD := hide hd0
    clear h hp m0 m1 b0 hw0 hMb hRb hm hd0
    go_enter Tryz.func78, Tryz.ntmps78
    go_upto_region 1 with fail
    rw [← HW0.out.1, ← HW0.out.2.1, ← HW0.out.2.2]
    go_upto_region 2 with (go_at_call 74; refine hmy.mono ?_; rintro e w1 ⟨rfl, b1⟩; have H1 := hide b1; clear b1; dsimp only)
    obtain ⟨BX, r5, bw5⟩ := HC.out w1 H1.out
    obtain ⟨u6, o6⟩ := set_one (i := 0) (.pointer pm) r5
    have b6 := Below.only bw5 o6 bw5.size (fun j e => by have := HZ.out; have e' : j = Rb := e; omega)
    have HE := hide (And.intro u6 (And.intro b6 (HH.out.1.below b6)))
    have x0 := BX.cell
    have c1 : w1.cell? ⟨Rb, 0, none⟩ = some (.pointer none) := (cell_of_row _ _ 0 _ 27 (0, 0) r5).trans rfl
    have f1 : w1.frozen? ⟨Rb, 0, none⟩ = false := frozen_of_row _ _ 0 _ 27 r5
    clear BX r5 bw5 u6 o6 b6 c0 hmy
    go_wp2
    refine ret_row_tmp Rb [.pointer pm] rfl rfl rfl Tryz.underlying27 rfl T27 (by simpa using HE.out.1) rfl ?_
    exact ⟨t, pm, HH.out.2, by rw [HD.out]; rfl, HE.out.2.2, by rw [HD.out]; rfl, fun _ => rfl, HE.out.2.1⟩
  | true =>
    rw [hm] at hmy
    have HM := hide hm
    have hln : ∀ W, Below w0.heap.size w0 W → Calls Tryz.prog 21 #[.agg #[.pointer pm]] W fun e w' => e = .returned (.int .i64 (t.n : Nat)) ∧ Below W.heap.size W w' := fun W hW => lenQ (HC.out W hW).1.2.2 hp
    have hn4 := h.few
    have hd0 : (dropN t.list n : Int) = max 0 (min n (t.n : Int)) := by
      unfold dropN
      rw [if_pos hm, Pm.T.n_eq]
      omega
    have HD := hide (And.intro hd0 hn4)
    clear h hp m0 m1 b0 hw0 hMb hRb hm hd0
    go_enter Tryz.func78, Tryz.ntmps78
    go_upto_region 1 with fail
    rw [← HW0.out.1, ← HW0.out.2.1, ← HW0.out.2.2]
    go_upto_region 3 with (go_at_call 74; refine hmy.mono ?_; rintro e w1 ⟨rfl, b1⟩; have H1 := hide b1; clear b1; dsimp only)
    have x1 := (HC.out w1 H1.out).1.cell
    go_upto_region 4 with (go_at_call 21; refine (hln _ H1.out).mono ?_; rintro e w2 ⟨rfl, b2⟩; have H2 := hide (H1.out.trans (b2.mono H1.out.size)); clear b2; dsimp only)
    rw [← HD.out.1]
    obtain ⟨K, hK⟩ : ∃ K, K = dropN t.list n := ⟨_, rfl⟩
    have hKn : K ≤ t.n := by have := HD.out; omega
    have hK4 : K ≤ 400 := by have := HD.out; omega
    have HK := hide (And.intro hK hKn)
    rw [← hK]
    have x2 := (HC.out w2 H2.out).1.cell
    clear hK hKn hmy hln c0 x1
    go_quiet (fail)
    have HQ := hide (H2.out.trans ((below_drew w2 nq).mono H2.out.size))
    generalize w2.drewN nq = w3 at HQ ⊢
    clear x2 H1 H2
    go_wp2
    go_loopw [6, 7, 25] (fun v6 v7 v25 wr => ∃ (i : Nat) (tc : Pm.T) (pc : Option Addr), v6 = .func (.func 145) #[.agg #[.pointer pc]] #[] ∧ v7 = .func (.func 131) #[.agg #[.pointer pc]] #[] ∧ v25 = .int .i64 i ∧ i ≤ K ∧ Hid (Boxd wr Mb pc tc ∧ tc.list = t.list.drop i ∧ wr.heap[Rb]? = some (.cells #[.pointer none] 27 (0, 0)) ∧ Below w.heap.size w wr)) (fun _ _ v25 _ => K - (intOf v25).toNat)
    case atStart =>
      obtain ⟨q1, q2, q3⟩ := HC.out w3 HQ.out
      exact ⟨0, t, pm, rfl, rfl, rfl, Nat.zero_le _, hide ⟨q1, rfl, q2, q3⟩⟩
    case round =>
      obtain ⟨i, tc, pc, rfl, rfl, rfl, hi, HI⟩ := hrel
      by_cases hgo : i < K
      · have y1 : (i : Int) < (K : Int) := by omega
        have y2 : decide (i < K) = true := by simpa using hgo
        obtain ⟨k, v, rest, hl⟩ : ∃ k v rest, tc.list = (k, v) :: rest := by
          have hlen : 0 < tc.list.length := by
            rw [HI.out.2.1, List.length_drop, Pm.T.n_eq]
            have := HK.out.2
            omega
          cases hl : tc.list with
          | nil => rw [hl] at hlen; cases hlen
          | cons x l => exact ⟨x.1, x.2, l, rfl⟩
        have hmf := mFirstP HI.out.1.2.2 HI.out.1.2.1 hl
        have htk := fun W (hW : Below wr.heap.size wr W) => takeP (HI.out.1.2.2.below hW) HI.out.1.2.1 hl
        have HTK := hide htk
        have hrest : rest = t.list.drop (i + 1) := by
          have h1 := HI.out.2.1
          rw [hl] at h1
          rw [← List.drop_drop, ← h1]
          rfl
        have HR := hide hrest
        clear htk hl hrest
        go_upto_region 9 with (first
          | (go_at_call 145; refine hmf.mono ?_; rintro e w4 ⟨rfl, b4⟩; have H4 := hide b4; clear b4; dsimp only)
          | (go_at_call 131; refine (HTK.out _ H4.out).mono ?_; rintro e w5 ⟨t', pt, hpt, rfl, mg5, hl5, b5⟩; have bb5 := H4.out.trans (b5.mono H4.out.size); have BX5 := HI.out.1.below bb5; have c5 := BX5.cell; have f5 : w5.frozen? ⟨Mb, 0, none⟩ = false := frozen_of_row _ _ 0 _ 27 BX5.1; have H5 := hide (And.intro hpt (And.intro mg5 (And.intro hl5 (And.intro bb5 BX5)))); clear b5 hpt mg5 hl5 bb5 BX5; dsimp only))
        obtain ⟨hpt, mg5, hl5, bb5, BX5⟩ := H5.out
        obtain ⟨u6, o6⟩ := set_one (i := 0) (.pointer pt) BX5.1
        obtain ⟨w6, hw6⟩ : ∃ q, q = w5.setCell ⟨Mb, 0, none⟩ (.pointer pt) := ⟨_, rfl⟩
        rw [← hw6] at u6 o6
        rw [← hw6]
        have BX6 : Boxd w6 Mb pt t' := ⟨by simpa using u6, hpt, mg5.aside BX5.1 o6⟩
        have r6 := (o6.block _ (by have := (Array.getElem?_eq_some_iff.1 HI.out.2.2.1).1; have := bb5.size; omega) (fun e => by have := HZ.out; have e' : Rb = Mb := e; omega)).trans ((bb5.block _ (Array.getElem?_eq_some_iff.1 HI.out.2.2.1).1).trans HI.out.2.2.1)
        have bw5 := HI.out.2.2.2.trans (bb5.mono HI.out.2.2.2.size)
        have b6 := Below.only bw5 o6 bw5.size (fun j e => by have := HZ.out; have e' : j = Mb := e; omega)
        have H6 := hide (And.intro BX6 (And.intro (hl5.trans HR.out) (And.intro r6 b6)))
        have x6 := BX6.cell
        clear hmf HTK u6 o6 hw6 BX6 r6 bw5 b6 hpt mg5 hl5 bb5 BX5 H5 H4 c5 f5 HI
        go_quiet (fail)
        have HN := hide (below_drew w6 nq)
        generalize w6.drewN nq = w7 at HN ⊢
        clear x6
        go_wp2
        go_roundw
        case rel => exact ⟨i + 1, t', pt, rfl, rfl, by go_num, by omega, hide ⟨H6.out.1.below HN.out, H6.out.2.1, (HN.out.block _ (Array.getElem?_eq_some_iff.1 H6.out.2.2.1).1).trans H6.out.2.2.1, H6.out.2.2.2.trans (HN.out.mono H6.out.2.2.2.size)⟩⟩
        case measure => simp [intOf]; omega
      · obtain rfl : i = K := by omega
        have y1 : ¬ (i : Int) < (i : Int) := by omega
        have y2 : decide (i < i) = false := by simp
        obtain ⟨q1, q2, q3, q4⟩ := HI.out
        obtain ⟨u6, o6⟩ := set_one (i := 0) (.pointer pc) q3
        have b6 := Below.only q4 o6 q4.size (fun j e => by have := HZ.out; have e' : j = Rb := e; omega)
        have mg6 := q1.2.2.aside q3 o6
        have HE := hide (And.intro u6 (And.intro b6 (And.intro mg6 (And.intro q2 q1.2.1))))
        have x0 := q1.cell
        have c1 : wr.cell? ⟨Rb, 0, none⟩ = some (.pointer none) := (cell_of_row _ _ 0 _ 27 (0, 0) q3).trans rfl
        have f1 : wr.frozen? ⟨Rb, 0, none⟩ = false := frozen_of_row _ _ 0 _ 27 q3
        clear q1 q2 q3 q4 u6 o6 b6 mg6 HI hi hK4
        go_wp2
        refine ret_row_tmp Rb [.pointer pc] rfl rfl rfl Tryz.underlying27 rfl T27 (by simpa using HE.out.1) rfl ?_
        exact ⟨tc, pc, HE.out.2.2.2.2, by rw [← HK.out.1]; rfl, HE.out.2.2.1, by rw [← HK.out.1]; exact HE.out.2.2.2.1, (fun hh => (by rw [HM.out] at hh; exact Bool.noConfusion hh)), HE.out.2.1⟩
end Go.Proofs.YtkkpdgfllnbigaaGreat.Qu
