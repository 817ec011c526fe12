/-
  MapPlays: THE WALK.
-/
import Derived.Test.YtleaaoknjflgoaaKept
import Derived.Test.YtleaaoknjflgoaaPlaysT
import Derived.Test.YtleaaoknjflgoaaOpenT
import Derived.Deep.CutBlock
import Derived.Deep.DeepCutAuto
namespace Go.Proofs.Ytleaaoknjflgoaa
open Go.RowKit Go.Shelf
set_option linter.unusedSimpArgs false

/-- What stands from round to round. -/
structure PlaysI (w wr : World) (v8 v9 v10 : Value) (t : T) (ts : List T) (vs : List Value) (n i : Nat) : Prop where
  box : wr.heap[w.heap.size]? = some (.cells #[t.ptr] 26 (0, 0))
  tree : In wr t
  bal : t.bal
  srt : Srt t.list
  list : Es wr v8 t.list
  ty : Ty wr v8
  few : t.n ≤ n
  kept : Kept wr (w.heap.size + 1) v9 v10 ts vs
  len : ts.length = i
  below : Below w.heap.size w wr
theorem PlaysI.shapes {w wr : World} {v8 v9 v10 : Value} {t : T} {ts : List T} {vs : List Value} {n i : Nat} (h : PlaysI w wr v8 v9 v10 t ts vs n i) : (∃ a9 c9, v9 = .slice a9 i c9) ∧ (∃ a10 c10, v10 = .slice a10 i c10) := by
  obtain ⟨a, c, e, _⟩ := row_form h.kept.maps
  obtain ⟨a', c', e', _⟩ := row_form h.kept.lists
  have h1 := h.len
  have h2 := h.kept.len
  subst h1
  exact ⟨⟨a, c, e⟩, ⟨a', c', by rw [e', h2]⟩⟩

theorem PlaysI.on {w wr w' : World} {v8 v9 v10 : Value} {t : T} {ts : List T} {vs : List Value} {n i : Nat} (h : PlaysI w wr v8 v9 v10 t ts vs n i) (hb : Below wr.heap.size wr w') : PlaysI w w' v8 v9 v10 t ts vs n i :=
  ⟨(hb.block _ (Array.getElem?_eq_some_iff.1 h.box).1).trans h.box, In.below hb h.tree, h.bal, h.srt, h.list.below hb, h.ty.below hb, h.few, h.kept.below hb, h.len, h.below.trans (hb.mono h.below.size)⟩
theorem box_afar {w : World} {C : Nat} {x : Value} (hw : w.heap[C]? = some (.cells #[x] 26 (0, 0))) : Afar (fun j => j = C) w := fun j e o hj => by
  subst e
  rw [hw] at hj
  cases hj
  exact ⟨_, _, _, rfl, .inl rfl⟩
/-- The round's map and list. -/
theorem PlaysI.next {w wr w2 : World} {v8 v9 v10 sv' : Value} {t t' : T} {ts : List T} {vs : List Value} {n i m : Nat} {a' : Option Addr} {x : Value} (h : PlaysI w wr v8 v9 v10 t ts vs n i) (hb : Below wr.heap.size wr w2) (hi : In w2 t') (hbal : t'.bal) (hs : Srt t'.list) (he : Es w2 sv' t'.list) (hty : Ty w2 sv') (hn : t'.n ≤ m) (hw : w2.heap[w.heap.size]? = some (.cells #[x] 26 (0, 0))) (ha : t'.ptr = .pointer a') :
    PlaysI w (w2.setCell ⟨w.heap.size, 0, none⟩ (.pointer a')) sv' v9 v10 t' ts vs m i ∧ Only (fun j => j = w.heap.size) w2 (w2.setCell ⟨w.heap.size, 0, none⟩ (.pointer a')) ∧ Below w.heap.size w (w2.setCell ⟨w.heap.size, 0, none⟩ (.pointer a')) := by
  obtain ⟨o1, o2, o3⟩ := put_box (w := w) (y := .pointer a') hw (Nat.le_refl _) (h.below.trans (hb.mono h.below.size))
  have hf := box_afar hw
  exact ⟨⟨by rw [ha]; exact o1, In.afar o3 hf hi, hbal, hs, he.afar o3 hf hty, hty.afar o3 hf, hn, (h.kept.below hb).aside hw (by omega) o3, h.len, o2⟩, o3, o2⟩

theorem split_says (t : T) (k : ByteArray) (v : Int) (w : World) (h : In w t) (hs : Srt t.list) (hb : t.bal) (hn : t.n ≤ 700000) {a : Option Addr} (ha : t.ptr = .pointer a) : Calls Try.prog 16 #[.agg #[.pointer a], .string k] w fun e w' => ∃ ta tb pa pb fv, e = .returned (.tuple #[.agg #[.pointer pa], .int .i64 fv, .bool (has k t.list), .agg #[.pointer pb]]) ∧ ta.ptr = .pointer pa ∧ tb.ptr = .pointer pb ∧ Cuts t ta tb k v ∧ (has k t.list = false → fv = 0) ∧ (has k t.list = true → t.list[pos k t.list]? = some (k, fv)) ∧ ta.list = t.list.take (pos k t.list) ∧ tb.list = t.list.drop (if has k t.list then pos k t.list + 1 else pos k t.list) ∧ In w' ta ∧ In w' tb ∧ Below w.heap.size w w' := by
  have := mSplit_any t k w h hn
  rw [show mv t = .agg #[.pointer a] from by unfold mv; rw [ha]] at this
  refine this.mono ?_
  rintro e w' ⟨ta, f, tb, he, hsp, ia, ib, hbel⟩
  obtain ⟨pa, hpa⟩ := ta.ptr_shape
  obtain ⟨pb, hpb⟩ := tb.ptr_shape
  obtain ⟨h1, h2, h3, h4⟩ := hsp.list hs
  have hf : f.isSome = has k t.list := by
    cases hG : has k t.list with
    | false => rw [h3 hG]; rfl
    | true =>
      have := (h4 hG).1
      cases f with
      | nil => exact (this rfl).elim
      | node => rfl
  refine ⟨ta, tb, pa, pb, f.val, ?_, hpa, hpb, hsp.cuts hs hb v, fun hG => by rw [h3 hG]; rfl, fun hG => (h4 hG).2, h1, h2, ia, ib, hbel⟩
  rw [he, hf]
  unfold mv
  rw [hpa, hpb]
theorem join_says {t ta tb : T} {k : ByteArray} {v : Int} (hc : Cuts t ta tb k v) (w : World) (ia : In w ta) (ib : In w tb) (hn : t.n ≤ 1000) {pa pb : Option Addr} (hpa : ta.ptr = .pointer pa) (hpb : tb.ptr = .pointer pb) : Calls Try.prog 18 #[.agg #[.pointer pa], .string k, .int .i64 v, .agg #[.pointer pb]] w fun e w' => ∃ x px, e = .returned (.tuple #[.agg #[.pointer px], .int .i64 0]) ∧ x.ptr = .pointer px ∧ x.bal ∧ x.list = ins k v t.list ∧ (x.n : Int) - (sharedIn ta x : Nat) - (sharedIn tb x : Nat) ≤ (max ((ta.h : Int) - tb.h) (-((ta.h : Int) - tb.h))) + 4 ∧ In w' x ∧ Below w.heap.size w w' := by
  have hnn : ta.n + tb.n ≤ 700000 := by
    have h1 := hc.an
    have h2 := hc.bn
    have h3 := pos_le k t.list
    rw [T.n_eq] at h2 h3
    omega
  have := mJoin_any ta tb k v w ia ib hnn
  rw [show mv ta = .agg #[.pointer pa] from by unfold mv; rw [hpa], show mv tb = .agg #[.pointer pb] from by unfold mv; rw [hpb]] at this
  refine this.mono ?_
  rintro e w' ⟨x, he, _, hj, ix, hbel⟩
  rw [hc.fits, if_pos rfl] at he
  have hj := hj hc.fits
  obtain ⟨px, hpx⟩ := x.ptr_shape
  obtain ⟨j1, j2⟩ := join_few hj hc.abal hc.bbal hc.asrt hc.bsrt (In.underP ia) (In.underP ib)
  exact ⟨x, px, by rw [he]; unfold mv; rw [hpx], hpx, j1, by rw [hj.list, hc.ins], j2, ix, hbel⟩
/-- Both sides of a list that is cut. -/
theorem es_cut {w : World} {v : Value} {l : List Nm} (h : Es w v l) {P Q : Nat} (hP : P ≤ l.length) (hQ : Q ≤ l.length) : ∃ ao cap A, v = .slice ao l.length cap ∧ (∀ w', (Instr.slice 27 (.slice ao l.length cap) none (some (.int .i64 (P : Nat))) none).run Try.prog w' = .ok (.slice ao P cap) w') ∧ (∀ w', (Instr.slice 27 (.slice ao l.length cap) (some (.int .i64 (Q : Nat))) none none).run Try.prog w' = .ok (.slice A (l.length - Q) (cap - Q)) w') ∧ Es w (.slice ao P cap) (l.take P) ∧ Es w (.slice A (l.length - Q) (cap - Q)) (l.drop Q) := by
  obtain ⟨ao, cap, e, hr, hc, hn, ha⟩ := h.ex
  obtain ⟨A, s2, r2, n2, p2⟩ := slice_lo2 (n := Q) hr hQ hc ha
  have h1 : (l.take P).length = P := by rw [List.length_take]; omega
  have h2 : (l.drop Q).length = l.length - Q := by rw [List.length_drop]
  refine ⟨ao, cap, A, e, fun w' => ?_, s2, ⟨ao, cap, by rw [h1], hr.take P, by omega, hn, ha⟩, ⟨A, cap - Q, by rw [h2], r2, by omega, fun e => by rw [hn (n2 e)]; omega, p2⟩⟩
  have hA : (if cap = 0 then ao else ao.map (fun x => x.add (0 * 2))) = ao := by
    split
    · rfl
    · cases ao with
      | none => rfl
      | some a => obtain ⟨b, o, s⟩ := a; have := ha _ rfl; simp only at this; subst this; rw [Option.map_some, add_lit]; simp
  have h3 : (0 : Int) ≤ (P : Int) ∧ (P : Int) ≤ (cap : Int) := by omega
  have h4 : P ≤ cap := by omega
  have hB : (if cap = 0 then ao else ao.map (fun x => x.add 0)) = ao := by simpa using hA
  simp [Instr.slice, Instr.sliceBounds, Instr.sliceBound, asIntOf, run_underlying Try.underlying27, go_sem, h4, Try.sizeOf44, hB]
/-- Two boxes that are new. -/
theorem two_new {w wm : World} {x y : Value} {n : Nat} (h : wm = ((w.alloc (.cells #[x] 26)).alloc (.cells #[y] 26)).drewN n) : wm.cell? ⟨w.heap.size, 0, none⟩ = some x ∧ wm.cell? ⟨w.heap.size + 1, 0, none⟩ = some y ∧ Below w.heap.size w wm := by
  have hb : Below w.heap.size w ((w.alloc (.cells #[x] 26)).alloc (.cells #[y] 26)) := ((Below.refl _ w).alloc (Nat.le_refl _) _).alloc (by simp) _
  have h1 : wm.heap[w.heap.size]? = some (.cells #[x] 26 (0, 0)) := by
    rw [h]
    show ((w.alloc (.cells #[x] 26)).alloc (.cells #[y] 26)).heap[w.heap.size]? = _
    rw [Below.heap_alloc _ _ _ (by simp)]
    exact heap_alloc_new w _
  have h2 : wm.heap[w.heap.size + 1]? = some (.cells #[y] 26 (0, 0)) := by
    rw [h]
    have := heap_alloc_new (w.alloc (.cells #[x] 26)) (.cells #[y] 26)
    simpa using this
  exact ⟨(cell_of_row _ _ 0 _ 26 (0, 0) h1).trans rfl, (cell_of_row _ _ 0 _ 26 (0, 0) h2).trans rfl, by rw [h]; exact hb.trans ((below_drew _ n).mono hb.size)⟩
theorem step_boxes {w wr wk : World} {kd vl : Int} {ky : ByteArray} {a : Option Addr} {t : T} {n : Nat} (hb : Below wr.heap.size wr ((wr.alloc (.cells #[.int .i64 kd, .string ky, .int .i64 vl] 31)).alloc (.cells #[.pointer a] 26))) (hwk : wk = ((wr.alloc (.cells #[.int .i64 kd, .string ky, .int .i64 vl] 31)).alloc (.cells #[.pointer a] 26)).drewN n) (hbox : wr.heap[w.heap.size]? = some (.cells #[t.ptr] 26 (0, 0))) (ha : t.ptr = .pointer a) :
    wk.cell? ⟨wr.heap.size, 0, none⟩ = some (.int .i64 kd) ∧ wk.cell? ⟨wr.heap.size, 1, none⟩ = some (.string ky) ∧ wk.cell? ⟨wr.heap.size, 2, none⟩ = some (.int .i64 vl) ∧ wk.cell? ⟨wr.heap.size + 1, 0, none⟩ = some (.pointer a) ∧ wk.heap[w.heap.size]? = some (.cells #[.pointer a] 26 (0, 0)) ∧ Hid (Below wr.heap.size wr wk ∧ wr.heap.size + 2 ≤ wk.heap.size ∧ w.heap.size < wr.heap.size) := by
  have hbk : Below wr.heap.size wr wk := by rw [hwk]; exact hb.trans ((below_drew _ n).mono hb.size)
  have h1 : wk.heap[wr.heap.size]? = some (.cells #[.int .i64 kd, .string ky, .int .i64 vl] 31 (0, 0)) := by
    rw [hwk]
    show ((wr.alloc (.cells #[.int .i64 kd, .string ky, .int .i64 vl] 31)).alloc (.cells #[.pointer a] 26)).heap[wr.heap.size]? = _
    rw [Below.heap_alloc _ _ _ (by simp)]
    exact heap_alloc_new wr _
  have h2 : wk.heap[wr.heap.size + 1]? = some (.cells #[.pointer a] 26 (0, 0)) := by
    rw [hwk]
    have := heap_alloc_new (wr.alloc (.cells #[.int .i64 kd, .string ky, .int .i64 vl] 31)) (.cells #[.pointer a] 26)
    simpa using this
  have hlt := (Array.getElem?_eq_some_iff.1 hbox).1
  refine ⟨(cell_of_row _ _ 0 _ 31 (0, 0) h1).trans rfl, (cell_of_row _ _ 1 _ 31 (0, 0) h1).trans rfl, (cell_of_row _ _ 2 _ 31 (0, 0) h1).trans rfl, (cell_of_row _ _ 0 _ 26 (0, 0) h2).trans rfl, ?_, hide ⟨hbk, by rw [hwk]; simp [World.drewN], hlt⟩⟩
  rw [hbk.block _ hlt, hbox, ha]

set_option maxHeartbeats 8000000 in
set_option maxRecDepth 100000 in
theorem plays_walk (hkn : ∀ W, Calls Try.prog 7 #[] W fun e w' => e = .returned (.bool true) ∧ Below W.heap.size W w') (st : List (Int × ByteArray × Int)) (sv : Value) (leave : Int) (frm : ByteArray) (w : World) (hs : Ss w sv st) (hl : st.length ≤ 60) :
    Calls Try.prog 3 #[sv, .int .i64 leave, .string frm] w fun e w' => e = .returned (.bool true) ∧ Below w.heap.size w w' := by
  obtain ⟨sa, sc, rfl, hsr⟩ := hs.ex
  have i0 : PlaysI w (w.alloc (.cells #[.pointer none] 26)) (.slice none 0 0) (.slice none 0 0) (.slice none 0 0) .nil [] [] 0 0 := ⟨heap_alloc_new w _, trivial, trivial, List.Pairwise.nil, Es.nil _, Ty.nil _, by simp [T.n], kept_none _ _, rfl, (Below.refl _ w).alloc (Nat.le_refl _) _⟩
  have HI := hide i0
  have HS := hide hsr
  have HK := hide hkn
  obtain ⟨N, hN⟩ : ∃ N, N = st.length := ⟨_, rfl⟩
  rw [← hN] at hl ⊢
  have HN := hide hN
  clear hs hsr i0 hN hkn
  have z1 : ¬ (60 : Int) < (N : Int) := by omega
  have z2 : decide ((60 : Int) < (N : Int)) = false := by simpa using z1
  go_enter Try.func3, Try.ntmps3
  go_wp2
  go_loopw [8, 9, 10, 11] (fun v8 v9 v10 v11 wr => ∃ (i : Nat) (t : T) (ts : List T) (vs : List Value) (a9 a10 : Option Addr) (c9 c10 : Nat), i ≤ N ∧ v11 = .int .i64 i ∧ v9 = .slice a9 i c9 ∧ v10 = .slice a10 i c10 ∧ Hid (PlaysI w wr v8 v9 v10 t ts vs i i)) (fun _ _ _ v11 _ => N - (intOf v11).toNat)
  case atStart => exact ⟨0, .nil, [], [], none, none, 0, 0, by omega, rfl, rfl, rfl, HI⟩
  case round =>
    obtain ⟨i, t, ts, vs, a9, a10, c9, c10, hi, rfl, rfl, rfl, HL⟩ := hrel
    by_cases hiN : i < N
    · have y1 : (i : Int) < (N : Int) := by omega
      obtain ⟨⟨kd, ky, vl⟩, hx⟩ : ∃ x, st[i]? = some x := ⟨st[i]'(by rw [← HN.out]; exact hiN), List.getElem?_eq_getElem _⟩
      obtain ⟨sb, so, hsa, cs0, cs1, cs2⟩ := HS.out i _ hx
      subst hsa
      have cs0 := cell_stays cs0 HL.out.below
      have cs1 := cell_stays cs1 HL.out.below
      have cs2 := cell_stays cs2 HL.out.below
      obtain ⟨a, ha⟩ := t.ptr_shape
      have cb : wr.cell? ⟨w.heap.size, 0, none⟩ = some (.pointer a) := by rw [cell_of_row _ _ 0 _ 26 (0, 0) HL.out.box, ha]; rfl
      have bal0 : Below wr.heap.size wr ((wr.alloc (.cells #[.int .i64 kd, .string ky, .int .i64 vl] 31)).alloc (.cells #[.pointer a] 26)) := ((Below.refl _ wr).alloc (Nat.le_refl _) _).alloc (by simp) _
      have ca := at_any t.list u8 ky _ (HL.out.list.below bal0) (by rw [T.n_eq]; have := HL.out.few; omega)
      have HB0 := hide bal0
      have cb1 : (wr.alloc (.cells #[.int .i64 kd, .string ky, .int .i64 vl] 31)).cell? ⟨w.heap.size, 0, none⟩ = some (.pointer a) := cell_stays cb ((Below.refl _ wr).alloc (Nat.le_refl _) _)
      generalize hP : pos ky t.list = P at *
      generalize hG : has ky t.list = G at *
      have HPG := hide (And.intro hP hG)
      clear hx bal0 hP hG
      go_upto_block 2 with (go_at_call 8; refine ca.mono ?_; rintro e wk ⟨rfl, nk, hwk⟩; obtain ⟨sk0, sk1, sk2, ck13, hk7, HBK⟩ := step_boxes HB0.out hwk HL.out.box ha; have ck7 : wk.cell? ⟨w.heap.size, 0, none⟩ = some (.pointer a) := (cell_of_row _ _ 0 _ 26 (0, 0) hk7).trans rfl; replace hk7 := hide hk7; clear hwk cb cb1; dsimp only)
      go_cut [8] (fun v8 wx => ∃ t', Hid (PlaysI w wx v8 (.slice a9 i c9) (.slice a10 i c10) t' ts vs (i + 1) i))
      case first =>
        by_cases k1 : kd = 1
        · as_aux_lemma =>
          subst k1
          have hfew := HL.out.few
          have hn7 : t.n ≤ 700000 := by omega
          have hll : t.list.length ≤ 100000 := by rw [T.n_eq]; omega
          have HBW : Below w.heap.size w wk := HL.out.below.trans (HBK.out.1.mono HL.out.below.size)
          have mp : ∀ W, Below wk.heap.size wk W → Calls Try.prog 9 #[.agg #[.pointer a], .string ky, .int .i64 vl] W fun e w' => ∃ t', e = .returned (mv t') ∧ In w' t' ∧ Puts W.heap.size ky vl t t' ∧ Below W.heap.size W w' := fun W hW => by
            have := mPut_any t ky vl W (In.below hW (In.below HBK.out.1 HL.out.tree)) hn7
            rw [show mv t = .agg #[.pointer a] from by unfold mv; rw [ha]] at this
            exact this
          have lp : ∀ W, Below wk.heap.size wk W → Calls Try.prog 10 #[u8, .string ky, .int .i64 vl] W fun e w' => ∃ sv', e = .returned sv' ∧ (Es w' sv' (ins ky vl t.list) ∧ Ty w' sv') ∧ Below W.heap.size W w' := fun W hW => lputT_any t.list u8 ky vl W ((HL.out.list.below HBK.out.1).below hW) hll
          have c7d : wk.drew.cell? ⟨w.heap.size, 0, none⟩ = some (.pointer a) := ck7
          have q0 : wk.cell? ⟨wr.heap.size, 1, none⟩ = some (.string ky) ∧ wk.cell? ⟨wr.heap.size, 2, none⟩ = some (.int .i64 vl) ∧ Hid (Below w.heap.size w wk) := ⟨sk1, sk2, hide HBW⟩
          clear hn7 hll ca sk0 cs0 cs1 cs2
          go_upto_region 15 with (fail)
          have qd : wk.drew.cell? ⟨wr.heap.size, 1, none⟩ = some (.string ky) ∧ wk.drew.cell? ⟨wr.heap.size, 2, none⟩ = some (.int .i64 vl) ∧ Hid (Below w.heap.size w wk.drew) := ⟨q0.1, q0.2.1, hide (q0.2.2.out.trans ((drew_below wk).mono q0.2.2.out.size))⟩
          refine wp_region_held_drew (S := (fun w' => w'.cell? ⟨wr.heap.size, 1, none⟩ = some (.string ky) ∧ w'.cell? ⟨wr.heap.size, 2, none⟩ = some (.int .i64 vl) ∧ Hid (Below w.heap.size w w'))) (by kernel_rfl) qd (fun hHeld => ?_)
          try dsimp only at hHeld
          refine take_op (i := 1) (d := 54) (OP := Op.fieldAddr 31 (Operand.tmp 12) 1) (T := 0) (v := ?vzz141) rfl rfl rfl rfl (by kernel_rfl) (by kernel_rfl) (by kernel_rfl) (fun _ _ _ h => h) (by rfl) ?hzz141 hHeld ?rzz141
          case hzz141 => (intro w' hSw; (try dsimp only at hSw); go_simp <;> with_reducible rfl)
          try simp only [Act.put, List.setIfInBounds_toArray, List.set_cons_zero, List.set_cons_succ]
          refine take_op (i := 2) (d := 55) (OP := Op.load 9 (Operand.tmp 54)) (T := 9) (v := ?vzz142) rfl rfl rfl rfl (by kernel_rfl) (by kernel_rfl) (by kernel_rfl) (fun _ _ _ h => h) (by rfl) ?hzz142 hHeld ?rzz142
          case hzz142 => (intro w' hSw; (try dsimp only at hSw); go_simp <;> with_reducible rfl)
          try simp only [Act.put, List.setIfInBounds_toArray, List.set_cons_zero, List.set_cons_succ]
          refine take_op (i := 3) (d := 56) (OP := Op.fieldAddr 31 (Operand.tmp 12) 2) (T := 0) (v := ?vzz143) rfl rfl rfl rfl (by kernel_rfl) (by kernel_rfl) (by kernel_rfl) (fun _ _ _ h => h) (by rfl) ?hzz143 hHeld ?rzz143
          case hzz143 => (intro w' hSw; (try dsimp only at hSw); go_simp <;> with_reducible rfl)
          try simp only [Act.put, List.setIfInBounds_toArray, List.set_cons_zero, List.set_cons_succ]
          refine take_op (i := 4) (d := 57) (OP := Op.load 3 (Operand.tmp 56)) (T := 3) (v := ?vzz144) rfl rfl rfl rfl (by kernel_rfl) (by kernel_rfl) (by kernel_rfl) (fun _ _ _ h => h) (by rfl) ?hzz144 hHeld ?rzz144
          case hzz144 => (intro w' hSw; (try dsimp only at hSw); go_simp <;> with_reducible rfl)
          try simp only [Act.put, List.setIfInBounds_toArray, List.set_cons_zero, List.set_cons_succ]
          refine take_op (i := 6) (d := 59) (OP := Op.move (Operand.tmp 8)) (T := 27) (v := ?vzz145) rfl rfl rfl rfl (by kernel_rfl) (by kernel_rfl) (by kernel_rfl) (fun _ _ _ h => h) (by rfl) ?hzz145 hHeld ?rzz145
          case hzz145 => (intro w' hSw; (try dsimp only at hSw); go_simp <;> with_reducible rfl)
          try simp only [Act.put, List.setIfInBounds_toArray, List.set_cons_zero, List.set_cons_succ]
          refine take_op (i := 7) (d := 60) (OP := Op.fieldAddr 31 (Operand.tmp 12) 1) (T := 0) (v := ?vzz146) rfl rfl rfl rfl (by kernel_rfl) (by kernel_rfl) (by kernel_rfl) (fun _ _ _ h => h) (by rfl) ?hzz146 hHeld ?rzz146
          case hzz146 => (intro w' hSw; (try dsimp only at hSw); go_simp <;> with_reducible rfl)
          try simp only [Act.put, List.setIfInBounds_toArray, List.set_cons_zero, List.set_cons_succ]
          refine take_op (i := 8) (d := 61) (OP := Op.load 9 (Operand.tmp 60)) (T := 9) (v := ?vzz147) rfl rfl rfl rfl (by kernel_rfl) (by kernel_rfl) (by kernel_rfl) (fun _ _ _ h => h) (by rfl) ?hzz147 hHeld ?rzz147
          case hzz147 => (intro w' hSw; (try dsimp only at hSw); go_simp <;> with_reducible rfl)
          try simp only [Act.put, List.setIfInBounds_toArray, List.set_cons_zero, List.set_cons_succ]
          refine take_op (i := 9) (d := 62) (OP := Op.fieldAddr 31 (Operand.tmp 12) 2) (T := 0) (v := ?vzz148) rfl rfl rfl rfl (by kernel_rfl) (by kernel_rfl) (by kernel_rfl) (fun _ _ _ h => h) (by rfl) ?hzz148 hHeld ?rzz148
          case hzz148 => (intro w' hSw; (try dsimp only at hSw); go_simp <;> with_reducible rfl)
          try simp only [Act.put, List.setIfInBounds_toArray, List.set_cons_zero, List.set_cons_succ]
          refine take_op (i := 10) (d := 63) (OP := Op.load 3 (Operand.tmp 62)) (T := 3) (v := ?vzz149) rfl rfl rfl rfl (by kernel_rfl) (by kernel_rfl) (by kernel_rfl) (fun _ _ _ h => h) (by rfl) ?hzz149 hHeld ?rzz149
          case hzz149 => (intro w' hSw; (try dsimp only at hSw); go_simp <;> with_reducible rfl)
          try simp only [Act.put, List.setIfInBounds_toArray, List.set_cons_zero, List.set_cons_succ]
          refine alone_op (i := 0) (d := 53) (OP := Op.load 26 (Operand.tmp 7)) (T := 26) (v := .agg #[.pointer a]) rfl rfl rfl rfl (by kernel_rfl) (by rfl) (by go_simp) qd ?_
          try simp only [Act.put, List.setIfInBounds_toArray, List.set_cons_zero, List.set_cons_succ]
          refine call_op (i := 5) (d := 58) (OP := Op.call { callee := Callee.value (Operand.func 9), args := #[Operand.tmp 53, Operand.tmp 55, Operand.tmp 57], argTypes := #[26, 9, 3] }) (T := 26) (f := 9) (args := #[.agg #[.pointer a], .string ky, .int .i64 vl]) rfl rfl rfl rfl (by kernel_rfl) (by rfl) (by go_simp) ?_
          refine (mp _ (drew_below wk)).mono ?_
          rintro e w1 ⟨t', he, i1, ht, b1⟩
          obtain ⟨a', ha'⟩ := t'.ptr_shape
          have he' : e = .returned (.agg #[.pointer a']) := by rw [he]; unfold mv; rw [ha']
          subst he'
          clear he
          have bk1 : Below wk.heap.size wk w1 := (drew_below wk).trans (b1.mono (drew_below wk).size)
          have qw1 : w1.cell? ⟨wr.heap.size, 1, none⟩ = some (.string ky) ∧ w1.cell? ⟨wr.heap.size, 2, none⟩ = some (.int .i64 vl) ∧ Hid (Below w.heap.size w w1) := ⟨cell_stays qd.1 b1, cell_stays qd.2.1 b1, hide (qd.2.2.out.trans (b1.mono qd.2.2.out.size))⟩
          refine ⟨_, rfl, qw1, ?_⟩
          replace hHeld := qw1
          try simp only [Act.put, List.setIfInBounds_toArray, List.set_cons_zero, List.set_cons_succ]
          refine call_op (i := 11) (d := 64) (OP := Op.call { callee := Callee.value (Operand.func 10), args := #[Operand.tmp 59, Operand.tmp 61, Operand.tmp 63], argTypes := #[27, 9, 3] }) (T := 27) (f := 10) (args := #[u8, .string ky, .int .i64 vl]) rfl rfl rfl rfl (by kernel_rfl) (by rfl) (by go_simp) ?_
          refine (lp _ bk1).mono ?_
          rintro e w2 ⟨sv', rfl, e2, b2⟩
          have bk2 : Below wk.heap.size wk w2 := bk1.trans (b2.mono bk1.size)
          have qw2 : w2.cell? ⟨wr.heap.size, 1, none⟩ = some (.string ky) ∧ w2.cell? ⟨wr.heap.size, 2, none⟩ = some (.int .i64 vl) ∧ Hid (Below w.heap.size w w2) := ⟨cell_stays qw1.1 b2, cell_stays qw1.2.1 b2, hide (qw1.2.2.out.trans (b2.mono qw1.2.2.out.size))⟩
          refine ⟨_, rfl, qw2, ?_⟩
          replace hHeld := qw2
          try simp only [Act.put, List.setIfInBounds_toArray, List.set_cons_zero, List.set_cons_succ]
          have hlt7 := HBK.out.2.2
          have h2 : w2.heap[w.heap.size]? = some (.cells #[.pointer a] 26 (0, 0)) := (bk2.block _ (Nat.lt_of_lt_of_le hlt7 HBK.out.1.size)).trans hk7.out
          have c2 : w2.cell? ⟨w.heap.size, 0, none⟩ = some (.pointer a) := (cell_of_row _ _ 0 _ 26 (0, 0) h2).trans rfl
          have f2 : w2.frozen? ⟨w.heap.size, 0, none⟩ = false := frozen_of_row _ _ 0 _ 26 h2
          have sy := ht.says HL.out.srt HL.out.bal (In.underP (In.below (drew_below wk) (In.below HBK.out.1 HL.out.tree)))
          have fw := put_few ht HL.out.srt HL.out.bal (In.underP (In.below (drew_below wk) (In.below HBK.out.1 HL.out.tree)))
          have i2 := In.below b2 i1
          have hlist : t'.list = ins ky vl t.list := ht.list HL.out.srt
          obtain ⟨hI, o3, o2⟩ := HL.out.next (m := i + 1) (HBK.out.1.trans (bk2.mono HBK.out.1.size)) i2 sy.bal (by rw [hlist]; exact srt_insP HL.out.srt ky vl) (by rw [hlist]; exact e2.1) e2.2 (by have := ht.n; omega) h2 ha'
          have it3 : In (w2.setCell ⟨w.heap.size, 0, none⟩ (.pointer a')) t := In.afar o3 (box_afar h2) (In.below bk2 (In.below HBK.out.1 HL.out.tree))
          have q3 : (w2.setCell ⟨w.heap.size, 0, none⟩ (.pointer a')).cell? ⟨wr.heap.size, 1, none⟩ = some (.string ky) ∧ (w2.setCell ⟨w.heap.size, 0, none⟩ (.pointer a')).cell? ⟨wr.heap.size, 2, none⟩ = some (.int .i64 vl) ∧ Hid (Below w.heap.size w (w2.setCell ⟨w.heap.size, 0, none⟩ (.pointer a'))) := ⟨o3.cell qw2.1 (by simp; omega), o3.cell qw2.2.1 (by simp; omega), hide o2⟩
          have c13 : (w2.setCell ⟨w.heap.size, 0, none⟩ (.pointer a')).cell? ⟨wr.heap.size + 1, 0, none⟩ = some (.pointer a) := o3.cell (cell_stays ck13 bk2) (by simp; omega)
          have c7 : (w2.setCell ⟨w.heap.size, 0, none⟩ (.pointer a')).cell? ⟨w.heap.size, 0, none⟩ = some (.pointer a') := by rw [cell_of_row _ _ 0 _ 26 (0, 0) hI.box, ha']; rfl
          obtain ⟨w3, hw3⟩ : ∃ w3, w3 = w2.setCell ⟨w.heap.size, 0, none⟩ (.pointer a') := ⟨_, rfl⟩
          rw [← hw3] at hI it3 q3 c13 c7
          refine skip_op (i := 12) (OP := Op.store 26 (Operand.tmp 7) (Operand.tmp 58)) (T := 0) (w' := w3) rfl rfl rfl rfl (by kernel_rfl) (by rfl) (by rw [hw3]; go_simp) ⟨q3, ?_⟩
          try simp only [Act.put, List.setIfInBounds_toArray, List.set_cons_zero, List.set_cons_succ]
          replace hHeld := q3
          refine take_op (i := 13) (d := 8) (OP := Op.assign (Operand.tmp 64)) (T := 27) (v := ?vzz150) rfl rfl rfl rfl (by kernel_rfl) (by kernel_rfl) (by kernel_rfl) (fun _ _ _ h => h) (by rfl) ?hzz150 hHeld ?rzz150
          case hzz150 => (intro w' hSw; (try dsimp only at hSw); go_simp <;> with_reducible rfl)
          try simp only [Act.put, List.setIfInBounds_toArray, List.set_cons_zero, List.set_cons_succ]
          refine wpAnyH_done (by kernel_rfl) ?_ _
          have hH := low60 HL.out.bal (by omega)
          have cM : ∀ W, Below w3.heap.size w3 W → Calls Try.prog 11 #[.agg #[.pointer a], .agg #[.pointer a']] W fun e w' => e = .returned (.int .i64 ((t'.n : Int) - (sharedIn t t' : Nat))) ∧ Below W.heap.size W w' := fun W hW => by
            have := madeOf_any t t' W (In.below hW it3) (In.below hW hI.tree) (by have := ht.n; omega)
            rw [show mv t = .agg #[.pointer a] from by unfold mv; rw [ha], show mv t' = .agg #[.pointer a'] from by unfold mv; rw [ha']] at this
            exact this
          have cH : ∀ W, Below w3.heap.size w3 W → Calls Try.prog 12 #[.agg #[.pointer a]] W fun e w' => e = .returned (.int .i64 (t.h : Nat)) ∧ Below W.heap.size W w' := fun W hW => by
            have := mHeight_any t W (In.below hW it3)
            rw [show mv t = .agg #[.pointer a] from by unfold mv; rw [ha]] at this
            exact this

          have hX0 : (t'.n : Int) - (sharedIn t t' : Nat) ≤ 1000 := by omega
          have hX1 : 0 ≤ (t'.n : Int) - (sharedIn t t' : Nat) := by have := shared_le t t'; omega
          obtain ⟨fw1, fw2⟩ := fw
          rw [HPG.out.2] at fw2
          have HI3 := hide hI
          have q4 : w3.cell? ⟨wr.heap.size + 1, 0, none⟩ = some (.pointer a) ∧ w3.cell? ⟨w.heap.size, 0, none⟩ = some (.pointer a') ∧ Hid (Below w3.heap.size w3 w3) := ⟨c13, c7, hide (Below.refl _ _)⟩
          generalize t.h = H at *
          generalize (t'.n : Int) - (sharedIn t t' : Nat) = X at *
          clear sy i2 hlist o3 o2 hI it3 q3 hw3 h2 c2 f2 e2 i1 ht b1 b2 bk1 bk2 qw1 qw2 qd hHeld mp lp c7d q0 hlt7 HBW hfew HL ha HBK hk7 HPG ck7 ck13 sk1 sk2 ha' HS

          have w5 : IntKind.i64.wrap ((H : Int) + 1) = (H : Int) + 1 := by rw [IntKind.wrap_i64]; omega
          have z5 : ¬ ((H : Int) + 1 < X) := by omega
          have z6 : decide ((H : Int) + 1 < X) = false := by simpa using z5
          go_upto_region 16 with (fail)
          cases G with
          | true =>
            have z7 : ¬ ((H : Int) < X) := by have := fw2 rfl; omega
            have z8 : decide ((H : Int) < X) = false := by simpa using z7
            have qd : w3.drew.cell? ⟨wr.heap.size + 1, 0, none⟩ = some (.pointer a) ∧ w3.drew.cell? ⟨w.heap.size, 0, none⟩ = some (.pointer a') ∧ Hid (Below w3.heap.size w3 w3.drew) := ⟨q4.1, q4.2.1, hide (q4.2.2.out.trans ((drew_below w3).mono q4.2.2.out.size))⟩
            refine wp_region_held_drew (S := (fun w' => w'.cell? ⟨wr.heap.size + 1, 0, none⟩ = some (.pointer a) ∧ w'.cell? ⟨w.heap.size, 0, none⟩ = some (.pointer a') ∧ Hid (Below w3.heap.size w3 w'))) (by kernel_rfl) qd (fun hHeld => ?_)
            try dsimp only at hHeld
            refine take_op (i := 0) (d := 65) (OP := Op.load 26 (Operand.tmp 13)) (T := 26) (v := ?vzz151) rfl rfl rfl rfl (by kernel_rfl) (by kernel_rfl) (by kernel_rfl) (fun _ _ _ h => h) (by rfl) ?hzz151 hHeld ?rzz151
            case hzz151 => (intro w' hSw; (try dsimp only at hSw); go_simp <;> with_reducible rfl)
            try simp only [Act.put, List.setIfInBounds_toArray, List.set_cons_zero, List.set_cons_succ]
            refine take_op (i := 1) (d := 66) (OP := Op.load 26 (Operand.tmp 7)) (T := 26) (v := ?vzz152) rfl rfl rfl rfl (by kernel_rfl) (by kernel_rfl) (by kernel_rfl) (fun _ _ _ h => h) (by rfl) ?hzz152 hHeld ?rzz152
            case hzz152 => (intro w' hSw; (try dsimp only at hSw); go_simp <;> with_reducible rfl)
            try simp only [Act.put, List.setIfInBounds_toArray, List.set_cons_zero, List.set_cons_succ]
            refine take_op (i := 3) (d := 68) (OP := Op.load 26 (Operand.tmp 13)) (T := 26) (v := ?vzz153) rfl rfl rfl rfl (by kernel_rfl) (by kernel_rfl) (by kernel_rfl) (fun _ _ _ h => h) (by rfl) ?hzz153 hHeld ?rzz153
            case hzz153 => (intro w' hSw; (try dsimp only at hSw); go_simp <;> with_reducible rfl)
            try simp only [Act.put, List.setIfInBounds_toArray, List.set_cons_zero, List.set_cons_succ]
            refine call_op (i := 2) (d := 67) (OP := Op.call { callee := Callee.value (Operand.func 11), args := #[Operand.tmp 65, Operand.tmp 66], argTypes := #[26, 26] }) (T := 3) (f := 11) (args := #[.agg #[.pointer a], .agg #[.pointer a']]) rfl rfl rfl rfl (by kernel_rfl) (by rfl) (by go_simp) ?_
            refine (cM _ qd.2.2.out).mono ?_
            rintro e wa4 ⟨rfl, bwa4⟩
            have qwa4 : wa4.cell? ⟨wr.heap.size + 1, 0, none⟩ = some (.pointer a) ∧ wa4.cell? ⟨w.heap.size, 0, none⟩ = some (.pointer a') ∧ Hid (Below w3.heap.size w3 wa4) := ⟨cell_stays qd.1 bwa4, cell_stays qd.2.1 bwa4, hide (qd.2.2.out.trans (bwa4.mono qd.2.2.out.size))⟩
            refine ⟨_, rfl, qwa4, ?_⟩
            replace hHeld := qwa4
            try simp only [Act.put, List.setIfInBounds_toArray, List.set_cons_zero, List.set_cons_succ]
            refine call_op (i := 4) (d := 69) (OP := Op.call { callee := Callee.value (Operand.func 12), args := #[Operand.tmp 68], argTypes := #[26] }) (T := 3) (f := 12) (args := #[.agg #[.pointer a]]) rfl rfl rfl rfl (by kernel_rfl) (by rfl) (by go_simp) ?_
            refine (cH _ qwa4.2.2.out).mono ?_
            rintro e wa5 ⟨rfl, bwa5⟩
            have qwa5 : wa5.cell? ⟨wr.heap.size + 1, 0, none⟩ = some (.pointer a) ∧ wa5.cell? ⟨w.heap.size, 0, none⟩ = some (.pointer a') ∧ Hid (Below w3.heap.size w3 wa5) := ⟨cell_stays qwa4.1 bwa5, cell_stays qwa4.2.1 bwa5, hide (qwa4.2.2.out.trans (bwa5.mono qwa4.2.2.out.size))⟩
            refine ⟨_, rfl, qwa5, ?_⟩
            replace hHeld := qwa5
            try simp only [Act.put, List.setIfInBounds_toArray, List.set_cons_zero, List.set_cons_succ]
            refine take_op (i := 5) (d := 70) (OP := Op.binOp BinOp.add 3 (Operand.tmp 69) (Operand.const (Value.int IntKind.i64 1)) 3) (T := 3) (v := ?vzz154) rfl rfl rfl rfl (by kernel_rfl) (by kernel_rfl) (by kernel_rfl) (fun _ _ _ h => h) (by rfl) ?hzz154 hHeld ?rzz154
            case hzz154 => (intro w' hSw; (try dsimp only at hSw); go_simp <;> with_reducible rfl)
            try simp only [Act.put, List.setIfInBounds_toArray, List.set_cons_zero, List.set_cons_succ]
            refine take_op (i := 6) (d := 71) (OP := Op.binOp BinOp.gtr 3 (Operand.tmp 67) (Operand.tmp 70) 3) (T := 4) (v := ?vzz155) rfl rfl rfl rfl (by kernel_rfl) (by kernel_rfl) (by kernel_rfl) (fun _ _ _ h => h) (by rfl) ?hzz155 hHeld ?rzz155
            case hzz155 => (intro w' hSw; (try dsimp only at hSw); go_simp <;> with_reducible rfl)
            try simp only [Act.put, List.setIfInBounds_toArray, List.set_cons_zero, List.set_cons_succ]
            refine take_op (i := 7) (d := 72) (OP := Op.move (Operand.tmp 71)) (T := 4) (v := ?vzz156) rfl rfl rfl rfl (by kernel_rfl) (by kernel_rfl) (by kernel_rfl) (fun _ _ _ h => h) (by rfl) ?hzz156 hHeld ?rzz156
            case hzz156 => (intro w' hSw; (try dsimp only at hSw); go_simp <;> with_reducible rfl)
            try simp only [Act.put, List.setIfInBounds_toArray, List.set_cons_zero, List.set_cons_succ]
            refine take_op (i := 8) (d := 73) (OP := Op.move (Operand.tmp 15)) (T := 4) (v := ?vzz157) rfl rfl rfl rfl (by kernel_rfl) (by kernel_rfl) (by kernel_rfl) (fun _ _ _ h => h) (by rfl) ?hzz157 hHeld ?rzz157
            case hzz157 => (intro w' hSw; (try dsimp only at hSw); go_simp <;> with_reducible rfl)
            try simp only [Act.put, List.setIfInBounds_toArray, List.set_cons_zero, List.set_cons_succ]
            refine take_op (i := 9) (d := 74) (OP := Op.move (Operand.tmp 73)) (T := 4) (v := ?vzz158) rfl rfl rfl rfl (by kernel_rfl) (by kernel_rfl) (by kernel_rfl) (fun _ _ _ h => h) (by rfl) ?hzz158 hHeld ?rzz158
            case hzz158 => (intro w' hSw; (try dsimp only at hSw); go_simp <;> with_reducible rfl)
            try simp only [Act.put, List.setIfInBounds_toArray, List.set_cons_zero, List.set_cons_succ]
            refine take_op (i := 10) (d := 75) (OP := Op.load 26 (Operand.tmp 13)) (T := 26) (v := ?vzz159) rfl rfl rfl rfl (by kernel_rfl) (by kernel_rfl) (by kernel_rfl) (fun _ _ _ h => h) (by rfl) ?hzz159 hHeld ?rzz159
            case hzz159 => (intro w' hSw; (try dsimp only at hSw); go_simp <;> with_reducible rfl)
            try simp only [Act.put, List.setIfInBounds_toArray, List.set_cons_zero, List.set_cons_succ]
            refine take_op (i := 11) (d := 76) (OP := Op.load 26 (Operand.tmp 7)) (T := 26) (v := ?vzz160) rfl rfl rfl rfl (by kernel_rfl) (by kernel_rfl) (by kernel_rfl) (fun _ _ _ h => h) (by rfl) ?hzz160 hHeld ?rzz160
            case hzz160 => (intro w' hSw; (try dsimp only at hSw); go_simp <;> with_reducible rfl)
            try simp only [Act.put, List.setIfInBounds_toArray, List.set_cons_zero, List.set_cons_succ]
            refine take_op (i := 13) (d := 78) (OP := Op.load 26 (Operand.tmp 13)) (T := 26) (v := ?vzz161) rfl rfl rfl rfl (by kernel_rfl) (by kernel_rfl) (by kernel_rfl) (fun _ _ _ h => h) (by rfl) ?hzz161 hHeld ?rzz161
            case hzz161 => (intro w' hSw; (try dsimp only at hSw); go_simp <;> with_reducible rfl)
            try simp only [Act.put, List.setIfInBounds_toArray, List.set_cons_zero, List.set_cons_succ]
            refine call_op (i := 12) (d := 77) (OP := Op.call { callee := Callee.value (Operand.func 11), args := #[Operand.tmp 75, Operand.tmp 76], argTypes := #[26, 26] }) (T := 3) (f := 11) (args := #[.agg #[.pointer a], .agg #[.pointer a']]) rfl rfl rfl rfl (by kernel_rfl) (by rfl) (by go_simp) ?_
            refine (cM _ qwa5.2.2.out).mono ?_
            rintro e wa6 ⟨rfl, bwa6⟩
            have qwa6 : wa6.cell? ⟨wr.heap.size + 1, 0, none⟩ = some (.pointer a) ∧ wa6.cell? ⟨w.heap.size, 0, none⟩ = some (.pointer a') ∧ Hid (Below w3.heap.size w3 wa6) := ⟨cell_stays qwa5.1 bwa6, cell_stays qwa5.2.1 bwa6, hide (qwa5.2.2.out.trans (bwa6.mono qwa5.2.2.out.size))⟩
            refine ⟨_, rfl, qwa6, ?_⟩
            replace hHeld := qwa6
            try simp only [Act.put, List.setIfInBounds_toArray, List.set_cons_zero, List.set_cons_succ]
            refine call_op (i := 14) (d := 79) (OP := Op.call { callee := Callee.value (Operand.func 12), args := #[Operand.tmp 78], argTypes := #[26] }) (T := 3) (f := 12) (args := #[.agg #[.pointer a]]) rfl rfl rfl rfl (by kernel_rfl) (by rfl) (by go_simp) ?_
            refine (cH _ qwa6.2.2.out).mono ?_
            rintro e wa7 ⟨rfl, bwa7⟩
            have qwa7 : wa7.cell? ⟨wr.heap.size + 1, 0, none⟩ = some (.pointer a) ∧ wa7.cell? ⟨w.heap.size, 0, none⟩ = some (.pointer a') ∧ Hid (Below w3.heap.size w3 wa7) := ⟨cell_stays qwa6.1 bwa7, cell_stays qwa6.2.1 bwa7, hide (qwa6.2.2.out.trans (bwa7.mono qwa6.2.2.out.size))⟩
            refine ⟨_, rfl, qwa7, ?_⟩
            replace hHeld := qwa7
            try simp only [Act.put, List.setIfInBounds_toArray, List.set_cons_zero, List.set_cons_succ]
            refine take_op (i := 15) (d := 80) (OP := Op.binOp BinOp.gtr 3 (Operand.tmp 77) (Operand.tmp 79) 3) (T := 4) (v := ?vzz162) rfl rfl rfl rfl (by kernel_rfl) (by kernel_rfl) (by kernel_rfl) (fun _ _ _ h => h) (by rfl) ?hzz162 hHeld ?rzz162
            case hzz162 => (intro w' hSw; (try dsimp only at hSw); go_simp <;> with_reducible rfl)
            try simp only [Act.put, List.setIfInBounds_toArray, List.set_cons_zero, List.set_cons_succ]
            refine take_op (i := 16) (d := 81) (OP := Op.pick (Operand.tmp 74) (Operand.tmp 80) (Operand.const (Value.bool false))) (T := 4) (v := ?vzz163) rfl rfl rfl rfl (by kernel_rfl) (by kernel_rfl) (by kernel_rfl) (fun _ _ _ h => h) (by rfl) ?hzz163 hHeld ?rzz163
            case hzz163 => (intro w' hSw; (try dsimp only at hSw); go_simp <;> with_reducible rfl)
            try simp only [Act.put, List.setIfInBounds_toArray, List.set_cons_zero, List.set_cons_succ]
            refine take_op (i := 17) (d := 82) (OP := Op.pick (Operand.tmp 72) (Operand.const (Value.bool true)) (Operand.tmp 81)) (T := 4) (v := ?vzz164) rfl rfl rfl rfl (by kernel_rfl) (by kernel_rfl) (by kernel_rfl) (fun _ _ _ h => h) (by rfl) ?hzz164 hHeld ?rzz164
            case hzz164 => (intro w' hSw; (try dsimp only at hSw); go_simp <;> with_reducible rfl)
            try simp only [Act.put, List.setIfInBounds_toArray, List.set_cons_zero, List.set_cons_succ]
            refine wpAnyH_done (by kernel_rfl) ?_ _
            go_wp2_with fail
            go_meet
            exact ⟨t', hide (HI3.out.on qwa7.2.2.out)⟩
          | false =>
            have qd : w3.drew.cell? ⟨wr.heap.size + 1, 0, none⟩ = some (.pointer a) ∧ w3.drew.cell? ⟨w.heap.size, 0, none⟩ = some (.pointer a') ∧ Hid (Below w3.heap.size w3 w3.drew) := ⟨q4.1, q4.2.1, hide (q4.2.2.out.trans ((drew_below w3).mono q4.2.2.out.size))⟩
            refine wp_region_held_drew (S := (fun w' => w'.cell? ⟨wr.heap.size + 1, 0, none⟩ = some (.pointer a) ∧ w'.cell? ⟨w.heap.size, 0, none⟩ = some (.pointer a') ∧ Hid (Below w3.heap.size w3 w'))) (by kernel_rfl) qd (fun hHeld => ?_)
            try dsimp only at hHeld
            refine take_op (i := 0) (d := 65) (OP := Op.load 26 (Operand.tmp 13)) (T := 26) (v := ?vzz165) rfl rfl rfl rfl (by kernel_rfl) (by kernel_rfl) (by kernel_rfl) (fun _ _ _ h => h) (by rfl) ?hzz165 hHeld ?rzz165
            case hzz165 => (intro w' hSw; (try dsimp only at hSw); go_simp <;> with_reducible rfl)
            try simp only [Act.put, List.setIfInBounds_toArray, List.set_cons_zero, List.set_cons_succ]
            refine take_op (i := 1) (d := 66) (OP := Op.load 26 (Operand.tmp 7)) (T := 26) (v := ?vzz166) rfl rfl rfl rfl (by kernel_rfl) (by kernel_rfl) (by kernel_rfl) (fun _ _ _ h => h) (by rfl) ?hzz166 hHeld ?rzz166
            case hzz166 => (intro w' hSw; (try dsimp only at hSw); go_simp <;> with_reducible rfl)
            try simp only [Act.put, List.setIfInBounds_toArray, List.set_cons_zero, List.set_cons_succ]
            refine take_op (i := 3) (d := 68) (OP := Op.load 26 (Operand.tmp 13)) (T := 26) (v := ?vzz167) rfl rfl rfl rfl (by kernel_rfl) (by kernel_rfl) (by kernel_rfl) (fun _ _ _ h => h) (by rfl) ?hzz167 hHeld ?rzz167
            case hzz167 => (intro w' hSw; (try dsimp only at hSw); go_simp <;> with_reducible rfl)
            try simp only [Act.put, List.setIfInBounds_toArray, List.set_cons_zero, List.set_cons_succ]
            refine call_op (i := 2) (d := 67) (OP := Op.call { callee := Callee.value (Operand.func 11), args := #[Operand.tmp 65, Operand.tmp 66], argTypes := #[26, 26] }) (T := 3) (f := 11) (args := #[.agg #[.pointer a], .agg #[.pointer a']]) rfl rfl rfl rfl (by kernel_rfl) (by rfl) (by go_simp) ?_
            refine (cM _ qd.2.2.out).mono ?_
            rintro e wa4 ⟨rfl, bwa4⟩
            have qwa4 : wa4.cell? ⟨wr.heap.size + 1, 0, none⟩ = some (.pointer a) ∧ wa4.cell? ⟨w.heap.size, 0, none⟩ = some (.pointer a') ∧ Hid (Below w3.heap.size w3 wa4) := ⟨cell_stays qd.1 bwa4, cell_stays qd.2.1 bwa4, hide (qd.2.2.out.trans (bwa4.mono qd.2.2.out.size))⟩
            refine ⟨_, rfl, qwa4, ?_⟩
            replace hHeld := qwa4
            try simp only [Act.put, List.setIfInBounds_toArray, List.set_cons_zero, List.set_cons_succ]
            refine call_op (i := 4) (d := 69) (OP := Op.call { callee := Callee.value (Operand.func 12), args := #[Operand.tmp 68], argTypes := #[26] }) (T := 3) (f := 12) (args := #[.agg #[.pointer a]]) rfl rfl rfl rfl (by kernel_rfl) (by rfl) (by go_simp) ?_
            refine (cH _ qwa4.2.2.out).mono ?_
            rintro e wa5 ⟨rfl, bwa5⟩
            have qwa5 : wa5.cell? ⟨wr.heap.size + 1, 0, none⟩ = some (.pointer a) ∧ wa5.cell? ⟨w.heap.size, 0, none⟩ = some (.pointer a') ∧ Hid (Below w3.heap.size w3 wa5) := ⟨cell_stays qwa4.1 bwa5, cell_stays qwa4.2.1 bwa5, hide (qwa4.2.2.out.trans (bwa5.mono qwa4.2.2.out.size))⟩
            refine ⟨_, rfl, qwa5, ?_⟩
            replace hHeld := qwa5
            try simp only [Act.put, List.setIfInBounds_toArray, List.set_cons_zero, List.set_cons_succ]
            refine take_op (i := 5) (d := 70) (OP := Op.binOp BinOp.add 3 (Operand.tmp 69) (Operand.const (Value.int IntKind.i64 1)) 3) (T := 3) (v := ?vzz168) rfl rfl rfl rfl (by kernel_rfl) (by kernel_rfl) (by kernel_rfl) (fun _ _ _ h => h) (by rfl) ?hzz168 hHeld ?rzz168
            case hzz168 => (intro w' hSw; (try dsimp only at hSw); go_simp <;> with_reducible rfl)
            try simp only [Act.put, List.setIfInBounds_toArray, List.set_cons_zero, List.set_cons_succ]
            refine take_op (i := 6) (d := 71) (OP := Op.binOp BinOp.gtr 3 (Operand.tmp 67) (Operand.tmp 70) 3) (T := 4) (v := ?vzz169) rfl rfl rfl rfl (by kernel_rfl) (by kernel_rfl) (by kernel_rfl) (fun _ _ _ h => h) (by rfl) ?hzz169 hHeld ?rzz169
            case hzz169 => (intro w' hSw; (try dsimp only at hSw); go_simp <;> with_reducible rfl)
            try simp only [Act.put, List.setIfInBounds_toArray, List.set_cons_zero, List.set_cons_succ]
            refine take_op (i := 7) (d := 72) (OP := Op.move (Operand.tmp 71)) (T := 4) (v := ?vzz170) rfl rfl rfl rfl (by kernel_rfl) (by kernel_rfl) (by kernel_rfl) (fun _ _ _ h => h) (by rfl) ?hzz170 hHeld ?rzz170
            case hzz170 => (intro w' hSw; (try dsimp only at hSw); go_simp <;> with_reducible rfl)
            try simp only [Act.put, List.setIfInBounds_toArray, List.set_cons_zero, List.set_cons_succ]
            refine take_op (i := 8) (d := 73) (OP := Op.move (Operand.tmp 15)) (T := 4) (v := ?vzz171) rfl rfl rfl rfl (by kernel_rfl) (by kernel_rfl) (by kernel_rfl) (fun _ _ _ h => h) (by rfl) ?hzz171 hHeld ?rzz171
            case hzz171 => (intro w' hSw; (try dsimp only at hSw); go_simp <;> with_reducible rfl)
            try simp only [Act.put, List.setIfInBounds_toArray, List.set_cons_zero, List.set_cons_succ]
            refine take_op (i := 9) (d := 74) (OP := Op.move (Operand.tmp 73)) (T := 4) (v := ?vzz172) rfl rfl rfl rfl (by kernel_rfl) (by kernel_rfl) (by kernel_rfl) (fun _ _ _ h => h) (by rfl) ?hzz172 hHeld ?rzz172
            case hzz172 => (intro w' hSw; (try dsimp only at hSw); go_simp <;> with_reducible rfl)
            try simp only [Act.put, List.setIfInBounds_toArray, List.set_cons_zero, List.set_cons_succ]
            refine pass_op (i := 10) (d := 75) rfl rfl (by kernel_rfl) (by kernel_rfl) (by kernel_rfl) (fun _ _ _ h => h) (by rfl) hHeld ?_
            try simp only [Act.put, List.setIfInBounds_toArray, List.set_cons_zero, List.set_cons_succ]
            refine pass_op (i := 11) (d := 76) rfl rfl (by kernel_rfl) (by kernel_rfl) (by kernel_rfl) (fun _ _ _ h => h) (by rfl) hHeld ?_
            try simp only [Act.put, List.setIfInBounds_toArray, List.set_cons_zero, List.set_cons_succ]
            refine pass_op (i := 12) (d := 77) rfl rfl (by kernel_rfl) (by kernel_rfl) (by kernel_rfl) (fun _ _ _ h => h) (by rfl) hHeld ?_
            try simp only [Act.put, List.setIfInBounds_toArray, List.set_cons_zero, List.set_cons_succ]
            refine pass_op (i := 13) (d := 78) rfl rfl (by kernel_rfl) (by kernel_rfl) (by kernel_rfl) (fun _ _ _ h => h) (by rfl) hHeld ?_
            try simp only [Act.put, List.setIfInBounds_toArray, List.set_cons_zero, List.set_cons_succ]
            refine pass_op (i := 14) (d := 79) rfl rfl (by kernel_rfl) (by kernel_rfl) (by kernel_rfl) (fun _ _ _ h => h) (by rfl) hHeld ?_
            try simp only [Act.put, List.setIfInBounds_toArray, List.set_cons_zero, List.set_cons_succ]
            refine pass_op (i := 15) (d := 80) rfl rfl (by kernel_rfl) (by kernel_rfl) (by kernel_rfl) (fun _ _ _ h => h) (by rfl) hHeld ?_
            try simp only [Act.put, List.setIfInBounds_toArray, List.set_cons_zero, List.set_cons_succ]
            refine take_op (i := 16) (d := 81) (OP := Op.pick (Operand.tmp 74) (Operand.tmp 80) (Operand.const (Value.bool false))) (T := 4) (v := ?vzz173) rfl rfl rfl rfl (by kernel_rfl) (by kernel_rfl) (by kernel_rfl) (fun _ _ _ h => h) (by rfl) ?hzz173 hHeld ?rzz173
            case hzz173 => (intro w' hSw; (try dsimp only at hSw); go_simp <;> with_reducible rfl)
            try simp only [Act.put, List.setIfInBounds_toArray, List.set_cons_zero, List.set_cons_succ]
            refine take_op (i := 17) (d := 82) (OP := Op.pick (Operand.tmp 72) (Operand.const (Value.bool true)) (Operand.tmp 81)) (T := 4) (v := ?vzz174) rfl rfl rfl rfl (by kernel_rfl) (by kernel_rfl) (by kernel_rfl) (fun _ _ _ h => h) (by rfl) ?hzz174 hHeld ?rzz174
            case hzz174 => (intro w' hSw; (try dsimp only at hSw); go_simp <;> with_reducible rfl)
            try simp only [Act.put, List.setIfInBounds_toArray, List.set_cons_zero, List.set_cons_succ]
            refine wpAnyH_done (by kernel_rfl) ?_ _
            go_wp2_with fail
            go_meet
            exact ⟨t', hide (HI3.out.on qwa5.2.2.out)⟩
        by_cases k2 : kd = 2
        · as_aux_lemma =>
          subst k2
          have hfew := HL.out.few
          have hn7 : t.n ≤ 700000 := by omega
          have hll : t.list.length ≤ 100000 := by rw [T.n_eq]; omega
          have HBW : Below w.heap.size w wk := HL.out.below.trans (HBK.out.1.mono HL.out.below.size)
          have mp : ∀ W, Below wk.heap.size wk W → Calls Try.prog 13 #[.agg #[.pointer a], .string ky] W fun e w' => ∃ t', e = .returned (mv t') ∧ In w' t' ∧ Takes W.heap.size ky t t' ∧ Below W.heap.size W w' := fun W hW => by
            have := mTake_any t ky W (In.below hW (In.below HBK.out.1 HL.out.tree)) hn7
            rw [show mv t = .agg #[.pointer a] from by unfold mv; rw [ha]] at this
            exact this
          have lp : ∀ W, Below wk.heap.size wk W → Calls Try.prog 14 #[u8, .string ky] W fun e w' => ∃ sv', e = .returned sv' ∧ (Es w' sv' (del ky t.list) ∧ Ty w' sv') ∧ Below W.heap.size W w' := fun W hW => ltakeT_any t.list u8 ky W ((HL.out.list.below HBK.out.1).below hW) ((HL.out.ty.below HBK.out.1).below hW) hll
          have c7d : wk.drew.cell? ⟨w.heap.size, 0, none⟩ = some (.pointer a) := ck7
          have q0 : wk.cell? ⟨wr.heap.size, 1, none⟩ = some (.string ky) ∧ Hid (Below w.heap.size w wk) := ⟨sk1, hide HBW⟩
          clear hn7 hll ca sk0 cs0 cs1 cs2
          go_upto_region 19 with (fail)
          have qd : wk.drew.cell? ⟨wr.heap.size, 1, none⟩ = some (.string ky) ∧ Hid (Below w.heap.size w wk.drew) := ⟨q0.1, hide (q0.2.out.trans ((drew_below wk).mono q0.2.out.size))⟩
          refine wp_region_held_drew (S := (fun w' => w'.cell? ⟨wr.heap.size, 1, none⟩ = some (.string ky) ∧ Hid (Below w.heap.size w w'))) (by kernel_rfl) qd (fun hHeld => ?_)
          try dsimp only at hHeld
          refine take_op (i := 1) (d := 86) (OP := Op.fieldAddr 31 (Operand.tmp 12) 1) (T := 0) (v := ?vzz175) rfl rfl rfl rfl (by kernel_rfl) (by kernel_rfl) (by kernel_rfl) (fun _ _ _ h => h) (by rfl) ?hzz175 hHeld ?rzz175
          case hzz175 => (intro w' hSw; (try dsimp only at hSw); go_simp <;> with_reducible rfl)
          try simp only [Act.put, List.setIfInBounds_toArray, List.set_cons_zero, List.set_cons_succ]
          refine take_op (i := 2) (d := 87) (OP := Op.load 9 (Operand.tmp 86)) (T := 9) (v := ?vzz176) rfl rfl rfl rfl (by kernel_rfl) (by kernel_rfl) (by kernel_rfl) (fun _ _ _ h => h) (by rfl) ?hzz176 hHeld ?rzz176
          case hzz176 => (intro w' hSw; (try dsimp only at hSw); go_simp <;> with_reducible rfl)
          try simp only [Act.put, List.setIfInBounds_toArray, List.set_cons_zero, List.set_cons_succ]
          refine take_op (i := 4) (d := 89) (OP := Op.move (Operand.tmp 8)) (T := 27) (v := ?vzz177) rfl rfl rfl rfl (by kernel_rfl) (by kernel_rfl) (by kernel_rfl) (fun _ _ _ h => h) (by rfl) ?hzz177 hHeld ?rzz177
          case hzz177 => (intro w' hSw; (try dsimp only at hSw); go_simp <;> with_reducible rfl)
          try simp only [Act.put, List.setIfInBounds_toArray, List.set_cons_zero, List.set_cons_succ]
          refine take_op (i := 5) (d := 90) (OP := Op.fieldAddr 31 (Operand.tmp 12) 1) (T := 0) (v := ?vzz178) rfl rfl rfl rfl (by kernel_rfl) (by kernel_rfl) (by kernel_rfl) (fun _ _ _ h => h) (by rfl) ?hzz178 hHeld ?rzz178
          case hzz178 => (intro w' hSw; (try dsimp only at hSw); go_simp <;> with_reducible rfl)
          try simp only [Act.put, List.setIfInBounds_toArray, List.set_cons_zero, List.set_cons_succ]
          refine take_op (i := 6) (d := 91) (OP := Op.load 9 (Operand.tmp 90)) (T := 9) (v := ?vzz179) rfl rfl rfl rfl (by kernel_rfl) (by kernel_rfl) (by kernel_rfl) (fun _ _ _ h => h) (by rfl) ?hzz179 hHeld ?rzz179
          case hzz179 => (intro w' hSw; (try dsimp only at hSw); go_simp <;> with_reducible rfl)
          try simp only [Act.put, List.setIfInBounds_toArray, List.set_cons_zero, List.set_cons_succ]
          refine alone_op (i := 0) (d := 85) (OP := Op.load 26 (Operand.tmp 7)) (T := 26) (v := .agg #[.pointer a]) rfl rfl rfl rfl (by kernel_rfl) (by rfl) (by go_simp) qd ?_
          try simp only [Act.put, List.setIfInBounds_toArray, List.set_cons_zero, List.set_cons_succ]
          refine call_op (i := 3) (d := 88) (OP := Op.call { callee := Callee.value (Operand.func 13), args := #[Operand.tmp 85, Operand.tmp 87], argTypes := #[26, 9] }) (T := 26) (f := 13) (args := #[.agg #[.pointer a], .string ky]) rfl rfl rfl rfl (by kernel_rfl) (by rfl) (by go_simp) ?_
          refine (mp _ (drew_below wk)).mono ?_
          rintro e w1 ⟨t', he, i1, ht, b1⟩
          obtain ⟨a', ha'⟩ := t'.ptr_shape
          have he' : e = .returned (.agg #[.pointer a']) := by rw [he]; unfold mv; rw [ha']
          subst he'
          clear he
          have bk1 : Below wk.heap.size wk w1 := (drew_below wk).trans (b1.mono (drew_below wk).size)
          have qw1 : w1.cell? ⟨wr.heap.size, 1, none⟩ = some (.string ky) ∧ Hid (Below w.heap.size w w1) := ⟨cell_stays qd.1 b1, hide (qd.2.out.trans (b1.mono qd.2.out.size))⟩
          refine ⟨_, rfl, qw1, ?_⟩
          replace hHeld := qw1
          try simp only [Act.put, List.setIfInBounds_toArray, List.set_cons_zero, List.set_cons_succ]
          refine call_op (i := 7) (d := 92) (OP := Op.call { callee := Callee.value (Operand.func 14), args := #[Operand.tmp 89, Operand.tmp 91], argTypes := #[27, 9] }) (T := 27) (f := 14) (args := #[u8, .string ky]) rfl rfl rfl rfl (by kernel_rfl) (by rfl) (by go_simp) ?_
          refine (lp _ bk1).mono ?_
          rintro e w2 ⟨sv', rfl, e2, b2⟩
          have bk2 : Below wk.heap.size wk w2 := bk1.trans (b2.mono bk1.size)
          have qw2 : w2.cell? ⟨wr.heap.size, 1, none⟩ = some (.string ky) ∧ Hid (Below w.heap.size w w2) := ⟨cell_stays qw1.1 b2, hide (qw1.2.out.trans (b2.mono qw1.2.out.size))⟩
          refine ⟨_, rfl, qw2, ?_⟩
          replace hHeld := qw2
          try simp only [Act.put, List.setIfInBounds_toArray, List.set_cons_zero, List.set_cons_succ]
          have hlt7 := HBK.out.2.2
          have h2 : w2.heap[w.heap.size]? = some (.cells #[.pointer a] 26 (0, 0)) := (bk2.block _ (Nat.lt_of_lt_of_le hlt7 HBK.out.1.size)).trans hk7.out
          have c2 : w2.cell? ⟨w.heap.size, 0, none⟩ = some (.pointer a) := (cell_of_row _ _ 0 _ 26 (0, 0) h2).trans rfl
          have f2 : w2.frozen? ⟨w.heap.size, 0, none⟩ = false := frozen_of_row _ _ 0 _ 26 h2
          have sy := ht.says HL.out.srt HL.out.bal (In.underP (In.below (drew_below wk) (In.below HBK.out.1 HL.out.tree)))
          have fw := take_few ht HL.out.srt HL.out.bal (In.underP (In.below (drew_below wk) (In.below HBK.out.1 HL.out.tree)))
          have i2 := In.below b2 i1
          have hlist : t'.list = del ky t.list := ht.list HL.out.srt
          obtain ⟨hI, o3, o2⟩ := HL.out.next (m := i + 1) (HBK.out.1.trans (bk2.mono HBK.out.1.size)) i2 sy.bal (by rw [hlist]; exact srt_delP HL.out.srt ky) (by rw [hlist]; exact e2.1) e2.2 (by have := ht.n; omega) h2 ha'
          have it3 : In (w2.setCell ⟨w.heap.size, 0, none⟩ (.pointer a')) t := In.afar o3 (box_afar h2) (In.below bk2 (In.below HBK.out.1 HL.out.tree))
          have q3 : (w2.setCell ⟨w.heap.size, 0, none⟩ (.pointer a')).cell? ⟨wr.heap.size, 1, none⟩ = some (.string ky) ∧ Hid (Below w.heap.size w (w2.setCell ⟨w.heap.size, 0, none⟩ (.pointer a'))) := ⟨o3.cell qw2.1 (by simp; omega), hide o2⟩
          have c13 : (w2.setCell ⟨w.heap.size, 0, none⟩ (.pointer a')).cell? ⟨wr.heap.size + 1, 0, none⟩ = some (.pointer a) := o3.cell (cell_stays ck13 bk2) (by simp; omega)
          have c7 : (w2.setCell ⟨w.heap.size, 0, none⟩ (.pointer a')).cell? ⟨w.heap.size, 0, none⟩ = some (.pointer a') := by rw [cell_of_row _ _ 0 _ 26 (0, 0) hI.box, ha']; rfl
          obtain ⟨w3, hw3⟩ : ∃ w3, w3 = w2.setCell ⟨w.heap.size, 0, none⟩ (.pointer a') := ⟨_, rfl⟩
          rw [← hw3] at hI it3 q3 c13 c7
          refine skip_op (i := 8) (OP := Op.store 26 (Operand.tmp 7) (Operand.tmp 88)) (T := 0) (w' := w3) rfl rfl rfl rfl (by kernel_rfl) (by rfl) (by rw [hw3]; go_simp) ⟨q3, ?_⟩
          try simp only [Act.put, List.setIfInBounds_toArray, List.set_cons_zero, List.set_cons_succ]
          replace hHeld := q3
          refine take_op (i := 9) (d := 8) (OP := Op.assign (Operand.tmp 92)) (T := 27) (v := ?vzz180) rfl rfl rfl rfl (by kernel_rfl) (by kernel_rfl) (by kernel_rfl) (fun _ _ _ h => h) (by rfl) ?hzz180 hHeld ?rzz180
          case hzz180 => (intro w' hSw; (try dsimp only at hSw); go_simp <;> with_reducible rfl)
          try simp only [Act.put, List.setIfInBounds_toArray, List.set_cons_zero, List.set_cons_succ]
          refine wpAnyH_done (by kernel_rfl) ?_ _
          have hH := low60 HL.out.bal (by omega)
          have cM : ∀ W, Below w3.heap.size w3 W → Calls Try.prog 11 #[.agg #[.pointer a], .agg #[.pointer a']] W fun e w' => e = .returned (.int .i64 ((t'.n : Int) - (sharedIn t t' : Nat))) ∧ Below W.heap.size W w' := fun W hW => by
            have := madeOf_any t t' W (In.below hW it3) (In.below hW hI.tree) (by have := ht.n; omega)
            rw [show mv t = .agg #[.pointer a] from by unfold mv; rw [ha], show mv t' = .agg #[.pointer a'] from by unfold mv; rw [ha']] at this
            exact this
          have cH : ∀ W, Below w3.heap.size w3 W → Calls Try.prog 12 #[.agg #[.pointer a]] W fun e w' => e = .returned (.int .i64 (t.h : Nat)) ∧ Below W.heap.size W w' := fun W hW => by
            have := mHeight_any t W (In.below hW it3)
            rw [show mv t = .agg #[.pointer a] from by unfold mv; rw [ha]] at this
            exact this
          have cS : G = false → ∀ W, Below w3.heap.size w3 W → Calls Try.prog 15 #[.agg #[.pointer a'], .agg #[.pointer a]] W fun e w' => e = .returned (.bool true) ∧ Below W.heap.size W w' := fun hG W hW => by
            have := mSame_any t' t W (In.below hW hI.tree) (In.below hW it3)
            rw [show mv t = .agg #[.pointer a] from by unfold mv; rw [ha], show mv t' = .agg #[.pointer a'] from by unfold mv; rw [ha'], decide_eq_true (fw.2 (HPG.out.2.trans hG))] at this
            exact this
          have hX0 : (t'.n : Int) - (sharedIn t t' : Nat) ≤ 1000 := by omega
          have hX1 : 0 ≤ (t'.n : Int) - (sharedIn t t' : Nat) := by have := shared_le t t'; omega
          obtain ⟨fw1, fw2⟩ := fw
          rw [HPG.out.2] at fw2
          have HI3 := hide hI
          have q4 : w3.cell? ⟨wr.heap.size + 1, 0, none⟩ = some (.pointer a) ∧ w3.cell? ⟨w.heap.size, 0, none⟩ = some (.pointer a') ∧ Hid (Below w3.heap.size w3 w3) := ⟨c13, c7, hide (Below.refl _ _)⟩
          generalize t.h = H at *
          generalize (t'.n : Int) - (sharedIn t t' : Nat) = X at *
          clear sy i2 hlist o3 o2 hI it3 q3 hw3 h2 c2 f2 e2 i1 ht b1 b2 bk1 bk2 qw1 qw2 qd hHeld mp lp c7d q0 hlt7 HBW hfew HL ha HBK hk7 HPG ck7 ck13 sk1 sk2 ha' HS

          have w5 : IntKind.i64.wrap (3 * (H : Int)) = 3 * (H : Int) := by rw [IntKind.wrap_i64]; omega
          have z5 : ¬ (3 * (H : Int) < X) := by omega
          have z6 : decide (3 * (H : Int) < X) = false := by simpa using z5
          go_upto_region 20 with (fail)
          cases G with
          | true =>
            have qd : w3.drew.cell? ⟨wr.heap.size + 1, 0, none⟩ = some (.pointer a) ∧ w3.drew.cell? ⟨w.heap.size, 0, none⟩ = some (.pointer a') ∧ Hid (Below w3.heap.size w3 w3.drew) := ⟨q4.1, q4.2.1, hide (q4.2.2.out.trans ((drew_below w3).mono q4.2.2.out.size))⟩
            refine wp_region_held_drew (S := (fun w' => w'.cell? ⟨wr.heap.size + 1, 0, none⟩ = some (.pointer a) ∧ w'.cell? ⟨w.heap.size, 0, none⟩ = some (.pointer a') ∧ Hid (Below w3.heap.size w3 w'))) (by kernel_rfl) qd (fun hHeld => ?_)
            try dsimp only at hHeld
            refine take_op (i := 0) (d := 93) (OP := Op.load 26 (Operand.tmp 13)) (T := 26) (v := ?vzz181) rfl rfl rfl rfl (by kernel_rfl) (by kernel_rfl) (by kernel_rfl) (fun _ _ _ h => h) (by rfl) ?hzz181 hHeld ?rzz181
            case hzz181 => (intro w' hSw; (try dsimp only at hSw); go_simp <;> with_reducible rfl)
            try simp only [Act.put, List.setIfInBounds_toArray, List.set_cons_zero, List.set_cons_succ]
            refine take_op (i := 1) (d := 94) (OP := Op.load 26 (Operand.tmp 7)) (T := 26) (v := ?vzz182) rfl rfl rfl rfl (by kernel_rfl) (by kernel_rfl) (by kernel_rfl) (fun _ _ _ h => h) (by rfl) ?hzz182 hHeld ?rzz182
            case hzz182 => (intro w' hSw; (try dsimp only at hSw); go_simp <;> with_reducible rfl)
            try simp only [Act.put, List.setIfInBounds_toArray, List.set_cons_zero, List.set_cons_succ]
            refine take_op (i := 3) (d := 96) (OP := Op.load 26 (Operand.tmp 13)) (T := 26) (v := ?vzz183) rfl rfl rfl rfl (by kernel_rfl) (by kernel_rfl) (by kernel_rfl) (fun _ _ _ h => h) (by rfl) ?hzz183 hHeld ?rzz183
            case hzz183 => (intro w' hSw; (try dsimp only at hSw); go_simp <;> with_reducible rfl)
            try simp only [Act.put, List.setIfInBounds_toArray, List.set_cons_zero, List.set_cons_succ]
            refine call_op (i := 2) (d := 95) (OP := Op.call { callee := Callee.value (Operand.func 11), args := #[Operand.tmp 93, Operand.tmp 94], argTypes := #[26, 26] }) (T := 3) (f := 11) (args := #[.agg #[.pointer a], .agg #[.pointer a']]) rfl rfl rfl rfl (by kernel_rfl) (by rfl) (by go_simp) ?_
            refine (cM _ qd.2.2.out).mono ?_
            rintro e wa4 ⟨rfl, bwa4⟩
            have qwa4 : wa4.cell? ⟨wr.heap.size + 1, 0, none⟩ = some (.pointer a) ∧ wa4.cell? ⟨w.heap.size, 0, none⟩ = some (.pointer a') ∧ Hid (Below w3.heap.size w3 wa4) := ⟨cell_stays qd.1 bwa4, cell_stays qd.2.1 bwa4, hide (qd.2.2.out.trans (bwa4.mono qd.2.2.out.size))⟩
            refine ⟨_, rfl, qwa4, ?_⟩
            replace hHeld := qwa4
            try simp only [Act.put, List.setIfInBounds_toArray, List.set_cons_zero, List.set_cons_succ]
            refine call_op (i := 4) (d := 97) (OP := Op.call { callee := Callee.value (Operand.func 12), args := #[Operand.tmp 96], argTypes := #[26] }) (T := 3) (f := 12) (args := #[.agg #[.pointer a]]) rfl rfl rfl rfl (by kernel_rfl) (by rfl) (by go_simp) ?_
            refine (cH _ qwa4.2.2.out).mono ?_
            rintro e wa5 ⟨rfl, bwa5⟩
            have qwa5 : wa5.cell? ⟨wr.heap.size + 1, 0, none⟩ = some (.pointer a) ∧ wa5.cell? ⟨w.heap.size, 0, none⟩ = some (.pointer a') ∧ Hid (Below w3.heap.size w3 wa5) := ⟨cell_stays qwa4.1 bwa5, cell_stays qwa4.2.1 bwa5, hide (qwa4.2.2.out.trans (bwa5.mono qwa4.2.2.out.size))⟩
            refine ⟨_, rfl, qwa5, ?_⟩
            replace hHeld := qwa5
            try simp only [Act.put, List.setIfInBounds_toArray, List.set_cons_zero, List.set_cons_succ]
            refine take_op (i := 5) (d := 98) (OP := Op.binOp BinOp.mul 3 (Operand.const (Value.int IntKind.i64 3)) (Operand.tmp 97) 3) (T := 3) (v := ?vzz184) rfl rfl rfl rfl (by kernel_rfl) (by kernel_rfl) (by kernel_rfl) (fun _ _ _ h => h) (by rfl) ?hzz184 hHeld ?rzz184
            case hzz184 => (intro w' hSw; (try dsimp only at hSw); go_simp <;> with_reducible rfl)
            try simp only [Act.put, List.setIfInBounds_toArray, List.set_cons_zero, List.set_cons_succ]
            refine take_op (i := 6) (d := 99) (OP := Op.binOp BinOp.gtr 3 (Operand.tmp 95) (Operand.tmp 98) 3) (T := 4) (v := ?vzz185) rfl rfl rfl rfl (by kernel_rfl) (by kernel_rfl) (by kernel_rfl) (fun _ _ _ h => h) (by rfl) ?hzz185 hHeld ?rzz185
            case hzz185 => (intro w' hSw; (try dsimp only at hSw); go_simp <;> with_reducible rfl)
            try simp only [Act.put, List.setIfInBounds_toArray, List.set_cons_zero, List.set_cons_succ]
            refine take_op (i := 7) (d := 100) (OP := Op.move (Operand.tmp 99)) (T := 4) (v := ?vzz186) rfl rfl rfl rfl (by kernel_rfl) (by kernel_rfl) (by kernel_rfl) (fun _ _ _ h => h) (by rfl) ?hzz186 hHeld ?rzz186
            case hzz186 => (intro w' hSw; (try dsimp only at hSw); go_simp <;> with_reducible rfl)
            try simp only [Act.put, List.setIfInBounds_toArray, List.set_cons_zero, List.set_cons_succ]
            refine take_op (i := 8) (d := 101) (OP := Op.move (Operand.tmp 15)) (T := 4) (v := ?vzz187) rfl rfl rfl rfl (by kernel_rfl) (by kernel_rfl) (by kernel_rfl) (fun _ _ _ h => h) (by rfl) ?hzz187 hHeld ?rzz187
            case hzz187 => (intro w' hSw; (try dsimp only at hSw); go_simp <;> with_reducible rfl)
            try simp only [Act.put, List.setIfInBounds_toArray, List.set_cons_zero, List.set_cons_succ]
            refine take_op (i := 9) (d := 102) (OP := Op.unOp UnOp.not 4 (Operand.tmp 101)) (T := 4) (v := ?vzz188) rfl rfl rfl rfl (by kernel_rfl) (by kernel_rfl) (by kernel_rfl) (fun _ _ _ h => h) (by rfl) ?hzz188 hHeld ?rzz188
            case hzz188 => (intro w' hSw; (try dsimp only at hSw); go_simp <;> with_reducible rfl)
            try simp only [Act.put, List.setIfInBounds_toArray, List.set_cons_zero, List.set_cons_succ]
            refine take_op (i := 10) (d := 103) (OP := Op.move (Operand.tmp 102)) (T := 4) (v := ?vzz189) rfl rfl rfl rfl (by kernel_rfl) (by kernel_rfl) (by kernel_rfl) (fun _ _ _ h => h) (by rfl) ?hzz189 hHeld ?rzz189
            case hzz189 => (intro w' hSw; (try dsimp only at hSw); go_simp <;> with_reducible rfl)
            try simp only [Act.put, List.setIfInBounds_toArray, List.set_cons_zero, List.set_cons_succ]
            refine pass_op (i := 11) (d := 104) rfl rfl (by kernel_rfl) (by kernel_rfl) (by kernel_rfl) (fun _ _ _ h => h) (by rfl) hHeld ?_
            try simp only [Act.put, List.setIfInBounds_toArray, List.set_cons_zero, List.set_cons_succ]
            refine pass_op (i := 12) (d := 105) rfl rfl (by kernel_rfl) (by kernel_rfl) (by kernel_rfl) (fun _ _ _ h => h) (by rfl) hHeld ?_
            try simp only [Act.put, List.setIfInBounds_toArray, List.set_cons_zero, List.set_cons_succ]
            refine pass_op (i := 13) (d := 106) rfl rfl (by kernel_rfl) (by kernel_rfl) (by kernel_rfl) (fun _ _ _ h => h) (by rfl) hHeld ?_
            try simp only [Act.put, List.setIfInBounds_toArray, List.set_cons_zero, List.set_cons_succ]
            refine pass_op (i := 14) (d := 107) rfl rfl (by kernel_rfl) (by kernel_rfl) (by kernel_rfl) (fun _ _ _ h => h) (by rfl) hHeld ?_
            try simp only [Act.put, List.setIfInBounds_toArray, List.set_cons_zero, List.set_cons_succ]
            refine take_op (i := 15) (d := 108) (OP := Op.pick (Operand.tmp 103) (Operand.tmp 107) (Operand.const (Value.bool false))) (T := 4) (v := ?vzz190) rfl rfl rfl rfl (by kernel_rfl) (by kernel_rfl) (by kernel_rfl) (fun _ _ _ h => h) (by rfl) ?hzz190 hHeld ?rzz190
            case hzz190 => (intro w' hSw; (try dsimp only at hSw); go_simp <;> with_reducible rfl)
            try simp only [Act.put, List.setIfInBounds_toArray, List.set_cons_zero, List.set_cons_succ]
            refine take_op (i := 16) (d := 109) (OP := Op.pick (Operand.tmp 100) (Operand.const (Value.bool true)) (Operand.tmp 108)) (T := 4) (v := ?vzz191) rfl rfl rfl rfl (by kernel_rfl) (by kernel_rfl) (by kernel_rfl) (fun _ _ _ h => h) (by rfl) ?hzz191 hHeld ?rzz191
            case hzz191 => (intro w' hSw; (try dsimp only at hSw); go_simp <;> with_reducible rfl)
            try simp only [Act.put, List.setIfInBounds_toArray, List.set_cons_zero, List.set_cons_succ]
            refine wpAnyH_done (by kernel_rfl) ?_ _
            go_wp2_with fail
            go_meet
            exact ⟨t', hide (HI3.out.on qwa5.2.2.out)⟩
          | false =>
            have qd : w3.drew.cell? ⟨wr.heap.size + 1, 0, none⟩ = some (.pointer a) ∧ w3.drew.cell? ⟨w.heap.size, 0, none⟩ = some (.pointer a') ∧ Hid (Below w3.heap.size w3 w3.drew) := ⟨q4.1, q4.2.1, hide (q4.2.2.out.trans ((drew_below w3).mono q4.2.2.out.size))⟩
            refine wp_region_held_drew (S := (fun w' => w'.cell? ⟨wr.heap.size + 1, 0, none⟩ = some (.pointer a) ∧ w'.cell? ⟨w.heap.size, 0, none⟩ = some (.pointer a') ∧ Hid (Below w3.heap.size w3 w'))) (by kernel_rfl) qd (fun hHeld => ?_)
            try dsimp only at hHeld
            refine take_op (i := 0) (d := 93) (OP := Op.load 26 (Operand.tmp 13)) (T := 26) (v := ?vzz192) rfl rfl rfl rfl (by kernel_rfl) (by kernel_rfl) (by kernel_rfl) (fun _ _ _ h => h) (by rfl) ?hzz192 hHeld ?rzz192
            case hzz192 => (intro w' hSw; (try dsimp only at hSw); go_simp <;> with_reducible rfl)
            try simp only [Act.put, List.setIfInBounds_toArray, List.set_cons_zero, List.set_cons_succ]
            refine take_op (i := 1) (d := 94) (OP := Op.load 26 (Operand.tmp 7)) (T := 26) (v := ?vzz193) rfl rfl rfl rfl (by kernel_rfl) (by kernel_rfl) (by kernel_rfl) (fun _ _ _ h => h) (by rfl) ?hzz193 hHeld ?rzz193
            case hzz193 => (intro w' hSw; (try dsimp only at hSw); go_simp <;> with_reducible rfl)
            try simp only [Act.put, List.setIfInBounds_toArray, List.set_cons_zero, List.set_cons_succ]
            refine take_op (i := 3) (d := 96) (OP := Op.load 26 (Operand.tmp 13)) (T := 26) (v := ?vzz194) rfl rfl rfl rfl (by kernel_rfl) (by kernel_rfl) (by kernel_rfl) (fun _ _ _ h => h) (by rfl) ?hzz194 hHeld ?rzz194
            case hzz194 => (intro w' hSw; (try dsimp only at hSw); go_simp <;> with_reducible rfl)
            try simp only [Act.put, List.setIfInBounds_toArray, List.set_cons_zero, List.set_cons_succ]
            refine call_op (i := 2) (d := 95) (OP := Op.call { callee := Callee.value (Operand.func 11), args := #[Operand.tmp 93, Operand.tmp 94], argTypes := #[26, 26] }) (T := 3) (f := 11) (args := #[.agg #[.pointer a], .agg #[.pointer a']]) rfl rfl rfl rfl (by kernel_rfl) (by rfl) (by go_simp) ?_
            refine (cM _ qd.2.2.out).mono ?_
            rintro e wa4 ⟨rfl, bwa4⟩
            have qwa4 : wa4.cell? ⟨wr.heap.size + 1, 0, none⟩ = some (.pointer a) ∧ wa4.cell? ⟨w.heap.size, 0, none⟩ = some (.pointer a') ∧ Hid (Below w3.heap.size w3 wa4) := ⟨cell_stays qd.1 bwa4, cell_stays qd.2.1 bwa4, hide (qd.2.2.out.trans (bwa4.mono qd.2.2.out.size))⟩
            refine ⟨_, rfl, qwa4, ?_⟩
            replace hHeld := qwa4
            try simp only [Act.put, List.setIfInBounds_toArray, List.set_cons_zero, List.set_cons_succ]
            refine call_op (i := 4) (d := 97) (OP := Op.call { callee := Callee.value (Operand.func 12), args := #[Operand.tmp 96], argTypes := #[26] }) (T := 3) (f := 12) (args := #[.agg #[.pointer a]]) rfl rfl rfl rfl (by kernel_rfl) (by rfl) (by go_simp) ?_
            refine (cH _ qwa4.2.2.out).mono ?_
            rintro e wa5 ⟨rfl, bwa5⟩
            have qwa5 : wa5.cell? ⟨wr.heap.size + 1, 0, none⟩ = some (.pointer a) ∧ wa5.cell? ⟨w.heap.size, 0, none⟩ = some (.pointer a') ∧ Hid (Below w3.heap.size w3 wa5) := ⟨cell_stays qwa4.1 bwa5, cell_stays qwa4.2.1 bwa5, hide (qwa4.2.2.out.trans (bwa5.mono qwa4.2.2.out.size))⟩
            refine ⟨_, rfl, qwa5, ?_⟩
            replace hHeld := qwa5
            try simp only [Act.put, List.setIfInBounds_toArray, List.set_cons_zero, List.set_cons_succ]
            refine take_op (i := 5) (d := 98) (OP := Op.binOp BinOp.mul 3 (Operand.const (Value.int IntKind.i64 3)) (Operand.tmp 97) 3) (T := 3) (v := ?vzz195) rfl rfl rfl rfl (by kernel_rfl) (by kernel_rfl) (by kernel_rfl) (fun _ _ _ h => h) (by rfl) ?hzz195 hHeld ?rzz195
            case hzz195 => (intro w' hSw; (try dsimp only at hSw); go_simp <;> with_reducible rfl)
            try simp only [Act.put, List.setIfInBounds_toArray, List.set_cons_zero, List.set_cons_succ]
            refine take_op (i := 6) (d := 99) (OP := Op.binOp BinOp.gtr 3 (Operand.tmp 95) (Operand.tmp 98) 3) (T := 4) (v := ?vzz196) rfl rfl rfl rfl (by kernel_rfl) (by kernel_rfl) (by kernel_rfl) (fun _ _ _ h => h) (by rfl) ?hzz196 hHeld ?rzz196
            case hzz196 => (intro w' hSw; (try dsimp only at hSw); go_simp <;> with_reducible rfl)
            try simp only [Act.put, List.setIfInBounds_toArray, List.set_cons_zero, List.set_cons_succ]
            refine take_op (i := 7) (d := 100) (OP := Op.move (Operand.tmp 99)) (T := 4) (v := ?vzz197) rfl rfl rfl rfl (by kernel_rfl) (by kernel_rfl) (by kernel_rfl) (fun _ _ _ h => h) (by rfl) ?hzz197 hHeld ?rzz197
            case hzz197 => (intro w' hSw; (try dsimp only at hSw); go_simp <;> with_reducible rfl)
            try simp only [Act.put, List.setIfInBounds_toArray, List.set_cons_zero, List.set_cons_succ]
            refine take_op (i := 8) (d := 101) (OP := Op.move (Operand.tmp 15)) (T := 4) (v := ?vzz198) rfl rfl rfl rfl (by kernel_rfl) (by kernel_rfl) (by kernel_rfl) (fun _ _ _ h => h) (by rfl) ?hzz198 hHeld ?rzz198
            case hzz198 => (intro w' hSw; (try dsimp only at hSw); go_simp <;> with_reducible rfl)
            try simp only [Act.put, List.setIfInBounds_toArray, List.set_cons_zero, List.set_cons_succ]
            refine take_op (i := 9) (d := 102) (OP := Op.unOp UnOp.not 4 (Operand.tmp 101)) (T := 4) (v := ?vzz199) rfl rfl rfl rfl (by kernel_rfl) (by kernel_rfl) (by kernel_rfl) (fun _ _ _ h => h) (by rfl) ?hzz199 hHeld ?rzz199
            case hzz199 => (intro w' hSw; (try dsimp only at hSw); go_simp <;> with_reducible rfl)
            try simp only [Act.put, List.setIfInBounds_toArray, List.set_cons_zero, List.set_cons_succ]
            refine take_op (i := 10) (d := 103) (OP := Op.move (Operand.tmp 102)) (T := 4) (v := ?vzz200) rfl rfl rfl rfl (by kernel_rfl) (by kernel_rfl) (by kernel_rfl) (fun _ _ _ h => h) (by rfl) ?hzz200 hHeld ?rzz200
            case hzz200 => (intro w' hSw; (try dsimp only at hSw); go_simp <;> with_reducible rfl)
            try simp only [Act.put, List.setIfInBounds_toArray, List.set_cons_zero, List.set_cons_succ]
            refine take_op (i := 11) (d := 104) (OP := Op.load 26 (Operand.tmp 7)) (T := 26) (v := ?vzz201) rfl rfl rfl rfl (by kernel_rfl) (by kernel_rfl) (by kernel_rfl) (fun _ _ _ h => h) (by rfl) ?hzz201 hHeld ?rzz201
            case hzz201 => (intro w' hSw; (try dsimp only at hSw); go_simp <;> with_reducible rfl)
            try simp only [Act.put, List.setIfInBounds_toArray, List.set_cons_zero, List.set_cons_succ]
            refine take_op (i := 12) (d := 105) (OP := Op.load 26 (Operand.tmp 13)) (T := 26) (v := ?vzz202) rfl rfl rfl rfl (by kernel_rfl) (by kernel_rfl) (by kernel_rfl) (fun _ _ _ h => h) (by rfl) ?hzz202 hHeld ?rzz202
            case hzz202 => (intro w' hSw; (try dsimp only at hSw); go_simp <;> with_reducible rfl)
            try simp only [Act.put, List.setIfInBounds_toArray, List.set_cons_zero, List.set_cons_succ]
            refine call_op (i := 13) (d := 106) (OP := Op.call { callee := Callee.value (Operand.func 15), args := #[Operand.tmp 104, Operand.tmp 105], argTypes := #[26, 26] }) (T := 4) (f := 15) (args := #[.agg #[.pointer a'], .agg #[.pointer a]]) rfl rfl rfl rfl (by kernel_rfl) (by rfl) (by go_simp) ?_
            refine (cS rfl _ qwa5.2.2.out).mono ?_
            rintro e wa6 ⟨rfl, bwa6⟩
            have qwa6 : wa6.cell? ⟨wr.heap.size + 1, 0, none⟩ = some (.pointer a) ∧ wa6.cell? ⟨w.heap.size, 0, none⟩ = some (.pointer a') ∧ Hid (Below w3.heap.size w3 wa6) := ⟨cell_stays qwa5.1 bwa6, cell_stays qwa5.2.1 bwa6, hide (qwa5.2.2.out.trans (bwa6.mono qwa5.2.2.out.size))⟩
            refine ⟨_, rfl, qwa6, ?_⟩
            replace hHeld := qwa6
            try simp only [Act.put, List.setIfInBounds_toArray, List.set_cons_zero, List.set_cons_succ]
            refine take_op (i := 14) (d := 107) (OP := Op.unOp UnOp.not 4 (Operand.tmp 106)) (T := 4) (v := ?vzz203) rfl rfl rfl rfl (by kernel_rfl) (by kernel_rfl) (by kernel_rfl) (fun _ _ _ h => h) (by rfl) ?hzz203 hHeld ?rzz203
            case hzz203 => (intro w' hSw; (try dsimp only at hSw); go_simp <;> with_reducible rfl)
            try simp only [Act.put, List.setIfInBounds_toArray, List.set_cons_zero, List.set_cons_succ]
            refine take_op (i := 15) (d := 108) (OP := Op.pick (Operand.tmp 103) (Operand.tmp 107) (Operand.const (Value.bool false))) (T := 4) (v := ?vzz204) rfl rfl rfl rfl (by kernel_rfl) (by kernel_rfl) (by kernel_rfl) (fun _ _ _ h => h) (by rfl) ?hzz204 hHeld ?rzz204
            case hzz204 => (intro w' hSw; (try dsimp only at hSw); go_simp <;> with_reducible rfl)
            try simp only [Act.put, List.setIfInBounds_toArray, List.set_cons_zero, List.set_cons_succ]
            refine take_op (i := 16) (d := 109) (OP := Op.pick (Operand.tmp 100) (Operand.const (Value.bool true)) (Operand.tmp 108)) (T := 4) (v := ?vzz205) rfl rfl rfl rfl (by kernel_rfl) (by kernel_rfl) (by kernel_rfl) (fun _ _ _ h => h) (by rfl) ?hzz205 hHeld ?rzz205
            case hzz205 => (intro w' hSw; (try dsimp only at hSw); go_simp <;> with_reducible rfl)
            try simp only [Act.put, List.setIfInBounds_toArray, List.set_cons_zero, List.set_cons_succ]
            refine wpAnyH_done (by kernel_rfl) ?_ _
            go_wp2_with fail
            go_meet
            exact ⟨t', hide (HI3.out.on qwa6.2.2.out)⟩
        by_cases k3 : kd = 3
        · as_aux_lemma =>
          subst k3
          have hfew := HL.out.few
          have hn7 : t.n ≤ 700000 := by omega
          have hll : t.list.length ≤ 100000 := by rw [T.n_eq]; omega
          have it := In.below HBK.out.1 HL.out.tree
          have sp := split_says t ky vl wk it HL.out.srt HL.out.bal hn7 ha
          have hPl : P ≤ t.list.length := by rw [← HPG.out.1]; exact pos_le ky t.list
          have hGl : G = true → P < t.list.length := fun hg => by rw [← HPG.out.1]; exact has_lt (by rw [HPG.out.2]; exact hg)
          have hQl : (if G then P + 1 else P) ≤ t.list.length := by cases G with | true => exact hGl rfl | false => exact hPl
          rw [HPG.out.1, HPG.out.2] at sp
          obtain ⟨ao, cap, A2, hu8, sl1, sl2, es1, es2⟩ := es_cut (HL.out.list.below HBK.out.1) (P := P) (Q := if G then P + 1 else P) hPl hQl
          have hat := fun W (hW : Below wk.heap.size wk W) => at_any t.list u8 ky W ((HL.out.list.below HBK.out.1).below hW) hll
          rw [HPG.out.1, HPG.out.2] at hat
          have lp : ∀ W, Below wk.heap.size wk W → Calls Try.prog 10 #[u8, .string ky, .int .i64 vl] W fun e w' => ∃ sv', e = .returned sv' ∧ (Es w' sv' (ins ky vl t.list) ∧ Ty w' sv') ∧ Below W.heap.size W w' := fun W hW => lputT_any t.list u8 ky vl W ((HL.out.list.below HBK.out.1).below hW) hll
          have HE12 := hide (And.intro es1 es2)
          have hent : G = true → ∀ fv, t.list[P]? = some (ky, fv) → ∃ eb eo, ao = some ⟨eb, eo, none⟩ ∧ wk.cell? ⟨eb, eo + P * 2 + 1, none⟩ = some (.int .i64 fv) := fun _ fv hfv => by
            obtain ⟨ao', cap', e', hr', _, _, hs'⟩ := (HL.out.list.below HBK.out.1).ex
            rw [hu8] at e'
            simp only [Value.slice.injEq] at e'
            obtain ⟨b, off, e1, _, e3⟩ := hr'.at hs' hfv
            exact ⟨b, off, by rw [e'.1, e1], e3⟩
          have HEN := hide hent
          obtain ⟨L8, hL8⟩ : ∃ L8, L8 = t.list.length := ⟨_, rfl⟩
          rw [← hL8] at hu8 sl1 sl2 hPl hGl hQl hll
          rw [← hL8] at HE12
          subst hu8
          have hL60 : L8 ≤ 61 := by rw [hL8, T.n_eq]; omega
          have HL8 := hide hL8
          have HAT := hide hat
          have HLP := hide lp
          clear ca sk0 cs0 cs1 cs2 es1 es2 hn7 hll it hL8 hat lp hent
          go_upto_region 24 with (go_at_call 16; refine sp.mono ?_; rintro e w1 ⟨ta, tb, pa, pb, fv, rfl, hpa, hpb, hct, hf0, hf1, hla, hlb, ia, ib, b1⟩; have H1 := hide (And.intro hpa (And.intro hpb (And.intro hct (And.intro hf0 (And.intro hf1 (And.intro hla (And.intro hlb (And.intro ia (And.intro ib b1))))))))); have s1 := cell_stays sk1 b1; have s2 := cell_stays sk2 b1; clear hpa hpb hct hf0 hf1 hla hlb ia ib b1; dsimp only)
          have b2n : Below wk.heap.size wk ((w1.alloc (.cells #[.pointer pa] 26)).alloc (.cells #[.pointer pb] 26)) := H1.out.2.2.2.2.2.2.2.2.2.trans ((((Below.refl _ w1).alloc (Nat.le_refl _) _).alloc (by simp) _).mono H1.out.2.2.2.2.2.2.2.2.2.size)
          have ca2 := HAT.out _ b2n
          have s1a := cell_stays sk1 b2n
          clear sp sk1 sk2
          go_upto_region 25 with (go_at_call 8; refine ca2.mono ?_; rintro e wm ⟨rfl, nm, hwm⟩; obtain ⟨cm16, cm19, bm1⟩ := two_new hwm; replace hwm := hide hwm; dsimp only)
          obtain ⟨hpa, hpb, hct, hf0, hf1, hla, hlb, ia, ib, b1⟩ := H1.out
          have bkm : Below wk.heap.size wk wm := b1.trans (bm1.mono b1.size)
          have s1 := cell_stays s1 bm1
          have s2 := cell_stays s2 bm1
          have iam := In.below bm1 ia
          have ibm := In.below bm1 ib
          have hbn := hct.bn
          have han := hct.an
          have hga : Good wm ta := ⟨iam, hct.abal, hct.asrt, by rw [han, HPG.out.1]; omega⟩
          have hgb : Good wm tb := ⟨ibm, hct.bbal, hct.bsrt, by rw [hbn, ← HL8.out]; omega⟩
          have ct1 : ∀ W, Below wm.heap.size wm W → Calls Try.prog 17 #[.agg #[.pointer pa], .slice ao P cap, .int .i64 leave, .string frm] W fun e w' => e = .returned (.bool true) ∧ Below W.heap.size W w' := fun W hW => by
            have := tells_any ta (.slice ao P cap) leave frm W (hga.below hW) (by rw [hla]; exact (HE12.out.1.below bkm).below hW)
            rw [show mv ta = .agg #[.pointer pa] from by unfold mv; rw [hpa]] at this
            exact this
          have ct2 : ∀ W, Below wm.heap.size wm W → Calls Try.prog 17 #[.agg #[.pointer pb], .slice A2 (L8 - (if G then P + 1 else P)) (cap - (if G then P + 1 else P)), .int .i64 leave, .string frm] W fun e w' => e = .returned (.bool true) ∧ Below W.heap.size W w' := fun W hW => by
            have := tells_any tb (.slice A2 (L8 - (if G then P + 1 else P)) (cap - (if G then P + 1 else P))) leave frm W (hgb.below hW) (by rw [hlb]; exact (HE12.out.2.below bkm).below hW)
            rw [show mv tb = .agg #[.pointer pb] from by unfold mv; rw [hpb]] at this
            exact this
          have hHa := low60 hct.abal (by have := hga.few; omega)
          have hHb := low60 hct.bbal (by have := hgb.few; omega)
          have jn : ∀ W, Below wm.heap.size wm W → Calls Try.prog 18 #[.agg #[.pointer pa], .string ky, .int .i64 vl, .agg #[.pointer pb]] W fun e w' => ∃ x px, e = .returned (.tuple #[.agg #[.pointer px], .int .i64 0]) ∧ x.ptr = .pointer px ∧ x.bal ∧ x.list = ins ky vl t.list ∧ (x.n : Int) - (sharedIn ta x : Nat) - (sharedIn tb x : Nat) ≤ (max ((ta.h : Int) - tb.h) (-((ta.h : Int) - tb.h))) + 4 ∧ In w' x ∧ Below W.heap.size W w' := fun W hW => join_says hct W (In.below hW iam) (In.below hW ibm) (by omega) hpa hpb
          have cHa : ∀ W, Below wm.heap.size wm W → Calls Try.prog 12 #[.agg #[.pointer pa]] W fun e w' => e = .returned (.int .i64 (ta.h : Nat)) ∧ Below W.heap.size W w' := fun W hW => by
            have := mHeight_any ta W (In.below hW iam)
            rw [show mv ta = .agg #[.pointer pa] from by unfold mv; rw [hpa]] at this
            exact this
          have cHb : ∀ W, Below wm.heap.size wm W → Calls Try.prog 12 #[.agg #[.pointer pb]] W fun e w' => e = .returned (.int .i64 (tb.h : Nat)) ∧ Below W.heap.size W w' := fun W hW => by
            have := mHeight_any tb W (In.below hW ibm)
            rw [show mv tb = .agg #[.pointer pb] from by unfold mv; rw [hpb]] at this
            exact this
          have HJ := hide (And.intro jn (And.intro cHa (And.intro cHb (And.intro hct (And.intro hpa (And.intro hpb (And.intro iam ibm)))))))
          have HF01 := hide (And.intro hf0 hf1)
          have HBKM := hide (And.intro bkm bm1)
          have hsz1 : w1.heap.size ≤ wm.heap.size := bm1.size
          clear jn cHa cHb hct hpa hpb iam ibm hga hgb hla hlb ia ib b1 bm1 bkm hf0 hf1 H1 ca2 b2n hwm han hbn HAT HE12 hsz1 s1a
          cases G with
          | true =>
           as_aux_lemma =>
            have zP : IntKind.i64.wrap ((P : Int) + 1) = (P : Int) + 1 := by rw [IntKind.wrap_i64]; omega
            have hfv := HF01.out.2 rfl
            obtain ⟨eb, eo, rfl, ce⟩ := HEN.out rfl fv hfv
            have ce := cell_stays ce HBKM.out.1
            have hPlt := hGl rfl
            have yP : (P : Int) < (L8 : Int) := by omega
            simp only [if_true] at sl2 ct2
            rw [show ((P + 1 : Nat) : Int) = (P : Int) + 1 from by omega] at sl2
            have q0 : wm.cell? ⟨w1.heap.size, 0, none⟩ = some (.pointer pa) ∧ wm.cell? ⟨w1.heap.size + 1, 0, none⟩ = some (.pointer pb) ∧ wm.cell? ⟨eb, eo + P * 2 + 1, none⟩ = some (.int .i64 fv) ∧ Hid (Below wm.heap.size wm wm) := ⟨cm16, cm19, ce, hide (Below.refl _ _)⟩
            clear hfv hGl
            clear hQl
            go_upto_region 28 with (fail)
            have qd : wm.drew.cell? ⟨w1.heap.size, 0, none⟩ = some (.pointer pa) ∧ wm.drew.cell? ⟨w1.heap.size + 1, 0, none⟩ = some (.pointer pb) ∧ wm.drew.cell? ⟨eb, eo + P * 2 + 1, none⟩ = some (.int .i64 fv) ∧ Hid (Below wm.heap.size wm wm.drew) := ⟨q0.1, q0.2.1, q0.2.2.1, hide (q0.2.2.2.out.trans ((drew_below wm).mono q0.2.2.2.out.size))⟩
            refine wp_region_held_drew (S := (fun w' => w'.cell? ⟨w1.heap.size, 0, none⟩ = some (.pointer pa) ∧ w'.cell? ⟨w1.heap.size + 1, 0, none⟩ = some (.pointer pb) ∧ w'.cell? ⟨eb, eo + P * 2 + 1, none⟩ = some (.int .i64 fv) ∧ Hid (Below wm.heap.size wm w'))) (by kernel_rfl) qd (fun hHeld => ?_)
            try dsimp only at hHeld
            refine take_op (i := 0) (d := 132) (OP := Op.move (Operand.tmp 18)) (T := 4) (v := ?vzz12) rfl rfl rfl rfl (by kernel_rfl) (by kernel_rfl) (by kernel_rfl) (fun _ _ _ h => h) (by rfl) ?hzz12 hHeld ?rzz12
            case hzz12 => (intro w' hSw; (try dsimp only at hSw); go_simp <;> with_reducible rfl)
            try simp only [Act.put, List.setIfInBounds_toArray, List.set_cons_zero, List.set_cons_succ]
            refine take_op (i := 1) (d := 133) (OP := Op.move (Operand.tmp 15)) (T := 4) (v := ?vzz13) rfl rfl rfl rfl (by kernel_rfl) (by kernel_rfl) (by kernel_rfl) (fun _ _ _ h => h) (by rfl) ?hzz13 hHeld ?rzz13
            case hzz13 => (intro w' hSw; (try dsimp only at hSw); go_simp <;> with_reducible rfl)
            try simp only [Act.put, List.setIfInBounds_toArray, List.set_cons_zero, List.set_cons_succ]
            refine take_op (i := 2) (d := 134) (OP := Op.binOp BinOp.neq 4 (Operand.tmp 132) (Operand.tmp 133) 4) (T := 4) (v := ?vzz14) rfl rfl rfl rfl (by kernel_rfl) (by kernel_rfl) (by kernel_rfl) (fun _ _ _ h => h) (by rfl) ?hzz14 hHeld ?rzz14
            case hzz14 => (intro w' hSw; (try dsimp only at hSw); go_simp <;> with_reducible rfl)
            try simp only [Act.put, List.setIfInBounds_toArray, List.set_cons_zero, List.set_cons_succ]
            refine take_op (i := 3) (d := 135) (OP := Op.move (Operand.tmp 134)) (T := 4) (v := ?vzz15) rfl rfl rfl rfl (by kernel_rfl) (by kernel_rfl) (by kernel_rfl) (fun _ _ _ h => h) (by rfl) ?hzz15 hHeld ?rzz15
            case hzz15 => (intro w' hSw; (try dsimp only at hSw); go_simp <;> with_reducible rfl)
            try simp only [Act.put, List.setIfInBounds_toArray, List.set_cons_zero, List.set_cons_succ]
            refine take_op (i := 4) (d := 136) (OP := Op.move (Operand.tmp 18)) (T := 4) (v := ?vzz16) rfl rfl rfl rfl (by kernel_rfl) (by kernel_rfl) (by kernel_rfl) (fun _ _ _ h => h) (by rfl) ?hzz16 hHeld ?rzz16
            case hzz16 => (intro w' hSw; (try dsimp only at hSw); go_simp <;> with_reducible rfl)
            try simp only [Act.put, List.setIfInBounds_toArray, List.set_cons_zero, List.set_cons_succ]
            refine take_op (i := 5) (d := 137) (OP := Op.move (Operand.tmp 136)) (T := 4) (v := ?vzz17) rfl rfl rfl rfl (by kernel_rfl) (by kernel_rfl) (by kernel_rfl) (fun _ _ _ h => h) (by rfl) ?hzz17 hHeld ?rzz17
            case hzz17 => (intro w' hSw; (try dsimp only at hSw); go_simp <;> with_reducible rfl)
            try simp only [Act.put, List.setIfInBounds_toArray, List.set_cons_zero, List.set_cons_succ]
            refine take_op (i := 6) (d := 138) (OP := Op.move (Operand.tmp 17)) (T := 3) (v := ?vzz18) rfl rfl rfl rfl (by kernel_rfl) (by kernel_rfl) (by kernel_rfl) (fun _ _ _ h => h) (by rfl) ?hzz18 hHeld ?rzz18
            case hzz18 => (intro w' hSw; (try dsimp only at hSw); go_simp <;> with_reducible rfl)
            try simp only [Act.put, List.setIfInBounds_toArray, List.set_cons_zero, List.set_cons_succ]
            refine take_op (i := 7) (d := 139) (OP := Op.move (Operand.tmp 8)) (T := 27) (v := ?vzz19) rfl rfl rfl rfl (by kernel_rfl) (by kernel_rfl) (by kernel_rfl) (fun _ _ _ h => h) (by rfl) ?hzz19 hHeld ?rzz19
            case hzz19 => (intro w' hSw; (try dsimp only at hSw); go_simp <;> with_reducible rfl)
            try simp only [Act.put, List.setIfInBounds_toArray, List.set_cons_zero, List.set_cons_succ]
            refine take_op (i := 8) (d := 140) (OP := Op.move (Operand.tmp 20)) (T := 3) (v := ?vzz20) rfl rfl rfl rfl (by kernel_rfl) (by kernel_rfl) (by kernel_rfl) (fun _ _ _ h => h) (by rfl) ?hzz20 hHeld ?rzz20
            case hzz20 => (intro w' hSw; (try dsimp only at hSw); go_simp <;> with_reducible rfl)
            try simp only [Act.put, List.setIfInBounds_toArray, List.set_cons_zero, List.set_cons_succ]
            refine take_op (i := 9) (d := 141) (OP := Op.indexAddr 27 (Operand.tmp 139) (Operand.tmp 140)) (T := 0) (v := ?vzz21) rfl rfl rfl rfl (by kernel_rfl) (by kernel_rfl) (by kernel_rfl) (fun _ _ _ h => h) (by rfl) ?hzz21 hHeld ?rzz21
            case hzz21 => (intro w' hSw; (try dsimp only at hSw); go_simp <;> with_reducible rfl)
            try simp only [Act.put, List.setIfInBounds_toArray, List.set_cons_zero, List.set_cons_succ]
            refine take_op (i := 10) (d := 142) (OP := Op.fieldAddr 44 (Operand.tmp 141) 1) (T := 0) (v := ?vzz22) rfl rfl rfl rfl (by kernel_rfl) (by kernel_rfl) (by kernel_rfl) (fun _ _ _ h => h) (by rfl) ?hzz22 hHeld ?rzz22
            case hzz22 => (intro w' hSw; (try dsimp only at hSw); go_simp <;> with_reducible rfl)
            try simp only [Act.put, List.setIfInBounds_toArray, List.set_cons_zero, List.set_cons_succ]
            refine take_op (i := 11) (d := 143) (OP := Op.load 3 (Operand.tmp 142)) (T := 3) (v := ?vzz23) rfl rfl rfl rfl (by kernel_rfl) (by kernel_rfl) (by kernel_rfl) (fun _ _ _ h => h) (by rfl) ?hzz23 hHeld ?rzz23
            case hzz23 => (intro w' hSw; (try dsimp only at hSw); go_simp <;> with_reducible rfl)
            try simp only [Act.put, List.setIfInBounds_toArray, List.set_cons_zero, List.set_cons_succ]
            refine take_op (i := 12) (d := 144) (OP := Op.binOp BinOp.neq 3 (Operand.tmp 138) (Operand.tmp 143) 3) (T := 4) (v := ?vzz24) rfl rfl rfl rfl (by kernel_rfl) (by kernel_rfl) (by kernel_rfl) (fun _ _ _ h => h) (by rfl) ?hzz24 hHeld ?rzz24
            case hzz24 => (intro w' hSw; (try dsimp only at hSw); go_simp <;> with_reducible rfl)
            try simp only [Act.put, List.setIfInBounds_toArray, List.set_cons_zero, List.set_cons_succ]
            refine take_op (i := 13) (d := 145) (OP := Op.pick (Operand.tmp 137) (Operand.tmp 144) (Operand.const (Value.bool false))) (T := 4) (v := ?vzz25) rfl rfl rfl rfl (by kernel_rfl) (by kernel_rfl) (by kernel_rfl) (fun _ _ _ h => h) (by rfl) ?hzz25 hHeld ?rzz25
            case hzz25 => (intro w' hSw; (try dsimp only at hSw); go_simp <;> with_reducible rfl)
            try simp only [Act.put, List.setIfInBounds_toArray, List.set_cons_zero, List.set_cons_succ]
            refine take_op (i := 14) (d := 146) (OP := Op.pick (Operand.tmp 135) (Operand.const (Value.bool true)) (Operand.tmp 145)) (T := 4) (v := ?vzz26) rfl rfl rfl rfl (by kernel_rfl) (by kernel_rfl) (by kernel_rfl) (fun _ _ _ h => h) (by rfl) ?hzz26 hHeld ?rzz26
            case hzz26 => (intro w' hSw; (try dsimp only at hSw); go_simp <;> with_reducible rfl)
            try simp only [Act.put, List.setIfInBounds_toArray, List.set_cons_zero, List.set_cons_succ]
            refine take_op (i := 15) (d := 147) (OP := Op.move (Operand.tmp 146)) (T := 4) (v := ?vzz27) rfl rfl rfl rfl (by kernel_rfl) (by kernel_rfl) (by kernel_rfl) (fun _ _ _ h => h) (by rfl) ?hzz27 hHeld ?rzz27
            case hzz27 => (intro w' hSw; (try dsimp only at hSw); go_simp <;> with_reducible rfl)
            try simp only [Act.put, List.setIfInBounds_toArray, List.set_cons_zero, List.set_cons_succ]
            refine take_op (i := 16) (d := 148) (OP := Op.move (Operand.tmp 18)) (T := 4) (v := ?vzz28) rfl rfl rfl rfl (by kernel_rfl) (by kernel_rfl) (by kernel_rfl) (fun _ _ _ h => h) (by rfl) ?hzz28 hHeld ?rzz28
            case hzz28 => (intro w' hSw; (try dsimp only at hSw); go_simp <;> with_reducible rfl)
            try simp only [Act.put, List.setIfInBounds_toArray, List.set_cons_zero, List.set_cons_succ]
            refine take_op (i := 17) (d := 149) (OP := Op.unOp UnOp.not 4 (Operand.tmp 148)) (T := 4) (v := ?vzz29) rfl rfl rfl rfl (by kernel_rfl) (by kernel_rfl) (by kernel_rfl) (fun _ _ _ h => h) (by rfl) ?hzz29 hHeld ?rzz29
            case hzz29 => (intro w' hSw; (try dsimp only at hSw); go_simp <;> with_reducible rfl)
            try simp only [Act.put, List.setIfInBounds_toArray, List.set_cons_zero, List.set_cons_succ]
            refine take_op (i := 18) (d := 150) (OP := Op.move (Operand.tmp 149)) (T := 4) (v := ?vzz30) rfl rfl rfl rfl (by kernel_rfl) (by kernel_rfl) (by kernel_rfl) (fun _ _ _ h => h) (by rfl) ?hzz30 hHeld ?rzz30
            case hzz30 => (intro w' hSw; (try dsimp only at hSw); go_simp <;> with_reducible rfl)
            try simp only [Act.put, List.setIfInBounds_toArray, List.set_cons_zero, List.set_cons_succ]
            refine pass_op (i := 19) (d := 151) rfl rfl (by kernel_rfl) (by kernel_rfl) (by kernel_rfl) (fun _ _ _ h => h) (by rfl) hHeld ?_
            try simp only [Act.put, List.setIfInBounds_toArray, List.set_cons_zero, List.set_cons_succ]
            refine pass_op (i := 20) (d := 152) rfl rfl (by kernel_rfl) (by kernel_rfl) (by kernel_rfl) (fun _ _ _ h => h) (by rfl) hHeld ?_
            try simp only [Act.put, List.setIfInBounds_toArray, List.set_cons_zero, List.set_cons_succ]
            refine take_op (i := 21) (d := 153) (OP := Op.pick (Operand.tmp 150) (Operand.tmp 152) (Operand.const (Value.bool false))) (T := 4) (v := ?vzz31) rfl rfl rfl rfl (by kernel_rfl) (by kernel_rfl) (by kernel_rfl) (fun _ _ _ h => h) (by rfl) ?hzz31 hHeld ?rzz31
            case hzz31 => (intro w' hSw; (try dsimp only at hSw); go_simp <;> with_reducible rfl)
            try simp only [Act.put, List.setIfInBounds_toArray, List.set_cons_zero, List.set_cons_succ]
            refine take_op (i := 22) (d := 154) (OP := Op.pick (Operand.tmp 147) (Operand.const (Value.bool true)) (Operand.tmp 153)) (T := 4) (v := ?vzz32) rfl rfl rfl rfl (by kernel_rfl) (by kernel_rfl) (by kernel_rfl) (fun _ _ _ h => h) (by rfl) ?hzz32 hHeld ?rzz32
            case hzz32 => (intro w' hSw; (try dsimp only at hSw); go_simp <;> with_reducible rfl)
            try simp only [Act.put, List.setIfInBounds_toArray, List.set_cons_zero, List.set_cons_succ]
            refine take_op (i := 23) (d := 155) (OP := Op.move (Operand.tmp 154)) (T := 4) (v := ?vzz33) rfl rfl rfl rfl (by kernel_rfl) (by kernel_rfl) (by kernel_rfl) (fun _ _ _ h => h) (by rfl) ?hzz33 hHeld ?rzz33
            case hzz33 => (intro w' hSw; (try dsimp only at hSw); go_simp <;> with_reducible rfl)
            try simp only [Act.put, List.setIfInBounds_toArray, List.set_cons_zero, List.set_cons_succ]
            refine take_op (i := 24) (d := 156) (OP := Op.load 26 (Operand.tmp 16)) (T := 26) (v := ?vzz34) rfl rfl rfl rfl (by kernel_rfl) (by kernel_rfl) (by kernel_rfl) (fun _ _ _ h => h) (by rfl) ?hzz34 hHeld ?rzz34
            case hzz34 => (intro w' hSw; (try dsimp only at hSw); go_simp <;> with_reducible rfl)
            try simp only [Act.put, List.setIfInBounds_toArray, List.set_cons_zero, List.set_cons_succ]
            refine take_op (i := 25) (d := 157) (OP := Op.move (Operand.tmp 8)) (T := 27) (v := ?vzz35) rfl rfl rfl rfl (by kernel_rfl) (by kernel_rfl) (by kernel_rfl) (fun _ _ _ h => h) (by rfl) ?hzz35 hHeld ?rzz35
            case hzz35 => (intro w' hSw; (try dsimp only at hSw); go_simp <;> with_reducible rfl)
            try simp only [Act.put, List.setIfInBounds_toArray, List.set_cons_zero, List.set_cons_succ]
            refine take_op (i := 26) (d := 158) (OP := Op.move (Operand.tmp 20)) (T := 3) (v := ?vzz36) rfl rfl rfl rfl (by kernel_rfl) (by kernel_rfl) (by kernel_rfl) (fun _ _ _ h => h) (by rfl) ?hzz36 hHeld ?rzz36
            case hzz36 => (intro w' hSw; (try dsimp only at hSw); go_simp <;> with_reducible rfl)
            try simp only [Act.put, List.setIfInBounds_toArray, List.set_cons_zero, List.set_cons_succ]
            refine take_op (i := 27) (d := 159) (OP := Op.slice 27 (Operand.tmp 157) none (some (Operand.tmp 158)) none) (T := 27) (v := ?vzz37) rfl rfl rfl rfl (by kernel_rfl) (by kernel_rfl) (by kernel_rfl) (fun _ _ _ h => h) (by rfl) ?hzz37 hHeld ?rzz37
            case hzz37 => (intro w' hSw; (try dsimp only at hSw); go_simp <;> with_reducible rfl)
            try simp only [Act.put, List.setIfInBounds_toArray, List.set_cons_zero, List.set_cons_succ]
            refine take_op (i := 28) (d := 160) (OP := Op.move (Operand.tmp 1)) (T := 3) (v := ?vzz38) rfl rfl rfl rfl (by kernel_rfl) (by kernel_rfl) (by kernel_rfl) (fun _ _ _ h => h) (by rfl) ?hzz38 hHeld ?rzz38
            case hzz38 => (intro w' hSw; (try dsimp only at hSw); go_simp <;> with_reducible rfl)
            try simp only [Act.put, List.setIfInBounds_toArray, List.set_cons_zero, List.set_cons_succ]
            refine take_op (i := 29) (d := 161) (OP := Op.move (Operand.tmp 2)) (T := 9) (v := ?vzz39) rfl rfl rfl rfl (by kernel_rfl) (by kernel_rfl) (by kernel_rfl) (fun _ _ _ h => h) (by rfl) ?hzz39 hHeld ?rzz39
            case hzz39 => (intro w' hSw; (try dsimp only at hSw); go_simp <;> with_reducible rfl)
            try simp only [Act.put, List.setIfInBounds_toArray, List.set_cons_zero, List.set_cons_succ]
            refine call_op (i := 30) (d := 162) (OP := Op.call { callee := Callee.value (Operand.func 17), args := #[Operand.tmp 156, Operand.tmp 159, Operand.tmp 160, Operand.tmp 161], argTypes := #[26, 27, 3, 9] }) (T := 4) (f := 17) (args := #[.agg #[.pointer pa], .slice (some ⟨eb, eo, none⟩) P cap, .int .i64 leave, .string frm]) rfl rfl rfl rfl (by kernel_rfl) (by rfl) (by go_simp) ?_
            refine (ct1 _ qd.2.2.2.out).mono ?_
            rintro e wt1 ⟨rfl, bwt1⟩
            have qwt1 : wt1.cell? ⟨w1.heap.size, 0, none⟩ = some (.pointer pa) ∧ wt1.cell? ⟨w1.heap.size + 1, 0, none⟩ = some (.pointer pb) ∧ wt1.cell? ⟨eb, eo + P * 2 + 1, none⟩ = some (.int .i64 fv) ∧ Hid (Below wm.heap.size wm wt1) := ⟨cell_stays qd.1 bwt1, cell_stays qd.2.1 bwt1, cell_stays qd.2.2.1 bwt1, hide (qd.2.2.2.out.trans (bwt1.mono qd.2.2.2.out.size))⟩
            refine ⟨_, rfl, qwt1, ?_⟩
            replace hHeld := qwt1
            try simp only [Act.put, List.setIfInBounds_toArray, List.set_cons_zero, List.set_cons_succ]
            refine take_op (i := 31) (d := 163) (OP := Op.unOp UnOp.not 4 (Operand.tmp 162)) (T := 4) (v := ?vzz40) rfl rfl rfl rfl (by kernel_rfl) (by kernel_rfl) (by kernel_rfl) (fun _ _ _ h => h) (by rfl) ?hzz40 hHeld ?rzz40
            case hzz40 => (intro w' hSw; (try dsimp only at hSw); go_simp <;> with_reducible rfl)
            try simp only [Act.put, List.setIfInBounds_toArray, List.set_cons_zero, List.set_cons_succ]
            refine take_op (i := 32) (d := 164) (OP := Op.pick (Operand.tmp 155) (Operand.const (Value.bool true)) (Operand.tmp 163)) (T := 4) (v := ?vzz41) rfl rfl rfl rfl (by kernel_rfl) (by kernel_rfl) (by kernel_rfl) (fun _ _ _ h => h) (by rfl) ?hzz41 hHeld ?rzz41
            case hzz41 => (intro w' hSw; (try dsimp only at hSw); go_simp <;> with_reducible rfl)
            try simp only [Act.put, List.setIfInBounds_toArray, List.set_cons_zero, List.set_cons_succ]
            refine take_op (i := 33) (d := 165) (OP := Op.move (Operand.tmp 164)) (T := 4) (v := ?vzz42) rfl rfl rfl rfl (by kernel_rfl) (by kernel_rfl) (by kernel_rfl) (fun _ _ _ h => h) (by rfl) ?hzz42 hHeld ?rzz42
            case hzz42 => (intro w' hSw; (try dsimp only at hSw); go_simp <;> with_reducible rfl)
            try simp only [Act.put, List.setIfInBounds_toArray, List.set_cons_zero, List.set_cons_succ]
            refine take_op (i := 34) (d := 166) (OP := Op.load 26 (Operand.tmp 19)) (T := 26) (v := ?vzz43) rfl rfl rfl rfl (by kernel_rfl) (by kernel_rfl) (by kernel_rfl) (fun _ _ _ h => h) (by rfl) ?hzz43 hHeld ?rzz43
            case hzz43 => (intro w' hSw; (try dsimp only at hSw); go_simp <;> with_reducible rfl)
            try simp only [Act.put, List.setIfInBounds_toArray, List.set_cons_zero, List.set_cons_succ]
            refine take_op (i := 35) (d := 167) (OP := Op.move (Operand.tmp 8)) (T := 27) (v := ?vzz44) rfl rfl rfl rfl (by kernel_rfl) (by kernel_rfl) (by kernel_rfl) (fun _ _ _ h => h) (by rfl) ?hzz44 hHeld ?rzz44
            case hzz44 => (intro w' hSw; (try dsimp only at hSw); go_simp <;> with_reducible rfl)
            try simp only [Act.put, List.setIfInBounds_toArray, List.set_cons_zero, List.set_cons_succ]
            refine take_op (i := 36) (d := 168) (OP := Op.move (Operand.tmp 22)) (T := 3) (v := ?vzz45) rfl rfl rfl rfl (by kernel_rfl) (by kernel_rfl) (by kernel_rfl) (fun _ _ _ h => h) (by rfl) ?hzz45 hHeld ?rzz45
            case hzz45 => (intro w' hSw; (try dsimp only at hSw); go_simp <;> with_reducible rfl)
            try simp only [Act.put, List.setIfInBounds_toArray, List.set_cons_zero, List.set_cons_succ]
            refine take_op (i := 37) (d := 169) (OP := Op.slice 27 (Operand.tmp 167) (some (Operand.tmp 168)) none none) (T := 27) (v := ?vzz46) rfl rfl rfl rfl (by kernel_rfl) (by kernel_rfl) (by kernel_rfl) (fun _ _ _ h => h) (by rfl) ?hzz46 hHeld ?rzz46
            case hzz46 => (intro w' hSw; (try dsimp only at hSw); go_simp <;> with_reducible rfl)
            try simp only [Act.put, List.setIfInBounds_toArray, List.set_cons_zero, List.set_cons_succ]
            refine take_op (i := 38) (d := 170) (OP := Op.move (Operand.tmp 1)) (T := 3) (v := ?vzz47) rfl rfl rfl rfl (by kernel_rfl) (by kernel_rfl) (by kernel_rfl) (fun _ _ _ h => h) (by rfl) ?hzz47 hHeld ?rzz47
            case hzz47 => (intro w' hSw; (try dsimp only at hSw); go_simp <;> with_reducible rfl)
            try simp only [Act.put, List.setIfInBounds_toArray, List.set_cons_zero, List.set_cons_succ]
            refine take_op (i := 39) (d := 171) (OP := Op.move (Operand.tmp 2)) (T := 9) (v := ?vzz48) rfl rfl rfl rfl (by kernel_rfl) (by kernel_rfl) (by kernel_rfl) (fun _ _ _ h => h) (by rfl) ?hzz48 hHeld ?rzz48
            case hzz48 => (intro w' hSw; (try dsimp only at hSw); go_simp <;> with_reducible rfl)
            try simp only [Act.put, List.setIfInBounds_toArray, List.set_cons_zero, List.set_cons_succ]
            refine call_op (i := 40) (d := 172) (OP := Op.call { callee := Callee.value (Operand.func 17), args := #[Operand.tmp 166, Operand.tmp 169, Operand.tmp 170, Operand.tmp 171], argTypes := #[26, 27, 3, 9] }) (T := 4) (f := 17) (args := #[.agg #[.pointer pb], .slice A2 (L8 - (P + 1)) (cap - (P + 1)), .int .i64 leave, .string frm]) rfl rfl rfl rfl (by kernel_rfl) (by rfl) (by go_simp) ?_
            refine (ct2 _ qwt1.2.2.2.out).mono ?_
            rintro e wt2 ⟨rfl, bwt2⟩
            have qwt2 : wt2.cell? ⟨w1.heap.size, 0, none⟩ = some (.pointer pa) ∧ wt2.cell? ⟨w1.heap.size + 1, 0, none⟩ = some (.pointer pb) ∧ wt2.cell? ⟨eb, eo + P * 2 + 1, none⟩ = some (.int .i64 fv) ∧ Hid (Below wm.heap.size wm wt2) := ⟨cell_stays qwt1.1 bwt2, cell_stays qwt1.2.1 bwt2, cell_stays qwt1.2.2.1 bwt2, hide (qwt1.2.2.2.out.trans (bwt2.mono qwt1.2.2.2.out.size))⟩
            refine ⟨_, rfl, qwt2, ?_⟩
            replace hHeld := qwt2
            try simp only [Act.put, List.setIfInBounds_toArray, List.set_cons_zero, List.set_cons_succ]
            refine take_op (i := 41) (d := 173) (OP := Op.unOp UnOp.not 4 (Operand.tmp 172)) (T := 4) (v := ?vzz49) rfl rfl rfl rfl (by kernel_rfl) (by kernel_rfl) (by kernel_rfl) (fun _ _ _ h => h) (by rfl) ?hzz49 hHeld ?rzz49
            case hzz49 => (intro w' hSw; (try dsimp only at hSw); go_simp <;> with_reducible rfl)
            try simp only [Act.put, List.setIfInBounds_toArray, List.set_cons_zero, List.set_cons_succ]
            refine take_op (i := 42) (d := 174) (OP := Op.pick (Operand.tmp 165) (Operand.const (Value.bool true)) (Operand.tmp 173)) (T := 4) (v := ?vzz50) rfl rfl rfl rfl (by kernel_rfl) (by kernel_rfl) (by kernel_rfl) (fun _ _ _ h => h) (by rfl) ?hzz50 hHeld ?rzz50
            case hzz50 => (intro w' hSw; (try dsimp only at hSw); go_simp <;> with_reducible rfl)
            try simp only [Act.put, List.setIfInBounds_toArray, List.set_cons_zero, List.set_cons_succ]
            refine wpAnyH_done (by kernel_rfl) ?_ _
            obtain ⟨jn, cHa, cHb, hct, hpa, hpb, iam, ibm⟩ := HJ.out
            have d16 := qwt2.1
            have d19 := qwt2.2.1
            have HT2 := qwt2.2.2.2
            have e1 := cell_stays s1 HT2.out
            have e2 := cell_stays s2 HT2.out
            have jn2 := jn wt2 HT2.out
            clear jn ct1 ct2 sl1 sl2 qd qwt1 qwt2 hHeld q0 cm16 cm19 s1 s2 ce hPlt yP
            go_upto_region 31 with (go_at_call 18; refine jn2.mono ?_; rintro e w5 ⟨x, px, rfl, hpx, hxb, hxl, hxf, ix, b5⟩; have H5 := hide (And.intro hpx (And.intro hxb (And.intro hxl (And.intro hxf (And.intro ix b5))))); have d16 := cell_stays d16 b5; have d19 := cell_stays d19 b5; have e1 := cell_stays e1 b5; have e2 := cell_stays e2 b5; clear hpx hxb hxl hxf ix b5; dsimp only)
            obtain ⟨hpx, hxb, hxl, hxf, ix, b5⟩ := H5.out
            obtain ⟨w6, hw6⟩ : ∃ w6, w6 = w5.alloc (.cells #[.pointer px] 26) := ⟨_, rfl⟩
            have b6 : Below w5.heap.size w5 w6 := by rw [hw6]; exact (Below.refl _ w5).alloc (Nat.le_refl _) _
            have d23 : w6.cell? ⟨w5.heap.size, 0, none⟩ = some (.pointer px) := by rw [hw6]; exact cell_new w5 _ 26
            have d16 := cell_stays d16 b6
            have d19 := cell_stays d19 b6
            have e1 := cell_stays e1 b6
            have e2 := cell_stays e2 b6
            rw [← hw6]
            have bm6 : Below wm.heap.size wm w6 := (HT2.out.trans (b5.mono HT2.out.size)).trans (b6.mono (HT2.out.trans (b5.mono HT2.out.size)).size)
            have HM6 := hide bm6
            have cHa := fun W (hW : Below w6.heap.size w6 W) => cHa W (bm6.trans (hW.mono bm6.size))
            have cHb := fun W (hW : Below w6.heap.size w6 W) => cHb W (bm6.trans (hW.mono bm6.size))
            have ix6 := In.below b6 ix
            have cL : ∀ W, Below w6.heap.size w6 W → Calls Try.prog 19 #[.agg #[.pointer px]] W fun e w' => e = .returned (.int .i64 (x.n : Nat)) ∧ Below W.heap.size W w' := fun W hW => by
              have := mLen_any x W (In.below hW ix6)
              rw [show mv x = .agg #[.pointer px] from by unfold mv; rw [hpx]] at this
              exact this
            have hins : (ins ky vl t.list).length ≤ t.list.length + 1 := by
              have := pos_le ky t.list
              unfold ins
              simp only [List.length_append, List.length_take, List.length_cons, List.length_drop]
              split <;> omega
            have hxn : x.n ≤ L8 + 1 := by rw [← T.n_eq, hxl, HL8.out]; exact hins
            have cSa : ∀ W, Below w6.heap.size w6 W → Calls Try.prog 20 #[.agg #[.pointer px], .agg #[.pointer pa]] W fun e w' => e = .returned (.int .i64 (sharedIn ta x : Nat)) ∧ Below W.heap.size W w' := fun W hW => by
              have := shared_any x ta W (In.below hW ix6) (In.below (bm6.trans (hW.mono bm6.size)) iam) (by omega)
              rw [show mv x = .agg #[.pointer px] from by unfold mv; rw [hpx], show mv ta = .agg #[.pointer pa] from by unfold mv; rw [hpa]] at this
              exact this
            have cSb : ∀ W, Below w6.heap.size w6 W → Calls Try.prog 20 #[.agg #[.pointer px], .agg #[.pointer pb]] W fun e w' => e = .returned (.int .i64 (sharedIn tb x : Nat)) ∧ Below W.heap.size W w' := fun W hW => by
              have := shared_any x tb W (In.below hW ix6) (In.below (bm6.trans (hW.mono bm6.size)) ibm) (by omega)
              rw [show mv x = .agg #[.pointer px] from by unfold mv; rw [hpx], show mv tb = .agg #[.pointer pb] from by unfold mv; rw [hpb]] at this
              exact this
            have hsa := shared_le ta x
            have hsb := shared_le tb x
            have HX6 := hide (And.intro hpx (And.intro hxb (And.intro hxl (And.intro hxn (And.intro ix6 bm6)))))
            have H5s : Hid (wt2.heap.size ≤ w5.heap.size) := hide b5.size
            have hins0 : (ins ky vl t.list).length ≤ i + 1 := by have := HL8.out; have := T.n_eq t; omega
            have q6 : w6.cell? ⟨w5.heap.size, 0, none⟩ = some (.pointer px) ∧ w6.cell? ⟨w1.heap.size, 0, none⟩ = some (.pointer pa) ∧ w6.cell? ⟨w1.heap.size + 1, 0, none⟩ = some (.pointer pb) ∧ Hid (Below w6.heap.size w6 w6) := ⟨d23, d16, d19, hide (Below.refl _ _)⟩
            clear hpx hxb hxl ix b5 hw6 b6 bm6 ix6 hct hpa hpb iam ibm jn2 H5 d16 d19 d23 HJ hins
            generalize ta.h = HA at *
            generalize tb.h = HB at *
            generalize x.n = XN at *
            generalize sharedIn ta x = SA at *
            generalize sharedIn tb x = SB at *
            have wd : IntKind.i64.wrap ((HA : Int) - (HB : Int)) = (HA : Int) - (HB : Int) := by rw [IntKind.wrap_i64]; omega
            have wd2 : wrap64 ((HA : Int) - (HB : Int)) = (HA : Int) - (HB : Int) := by unfold wrap64; omega
            go_upto_region 31 with (fail)
            have qd : w6.drew.cell? ⟨w5.heap.size, 0, none⟩ = some (.pointer px) ∧ w6.drew.cell? ⟨w1.heap.size, 0, none⟩ = some (.pointer pa) ∧ w6.drew.cell? ⟨w1.heap.size + 1, 0, none⟩ = some (.pointer pb) ∧ Hid (Below w6.heap.size w6 w6.drew) := ⟨q6.1, q6.2.1, q6.2.2.1, hide (q6.2.2.2.out.trans ((drew_below w6).mono q6.2.2.2.out.size))⟩
            refine wp_region_held_drew (S := (fun w' => w'.cell? ⟨w5.heap.size, 0, none⟩ = some (.pointer px) ∧ w'.cell? ⟨w1.heap.size, 0, none⟩ = some (.pointer pa) ∧ w'.cell? ⟨w1.heap.size + 1, 0, none⟩ = some (.pointer pb) ∧ Hid (Below w6.heap.size w6 w'))) (by kernel_rfl) qd (fun hHeld => ?_)
            try dsimp only at hHeld
            refine take_op (i := 0) (d := 185) (OP := Op.load 26 (Operand.tmp 16)) (T := 26) (v := ?vzz51) rfl rfl rfl rfl (by kernel_rfl) (by kernel_rfl) (by kernel_rfl) (fun _ _ _ h => h) (by rfl) ?hzz51 hHeld ?rzz51
            case hzz51 => (intro w' hSw; (try dsimp only at hSw); go_simp <;> with_reducible rfl)
            try simp only [Act.put, List.setIfInBounds_toArray, List.set_cons_zero, List.set_cons_succ]
            refine take_op (i := 2) (d := 187) (OP := Op.load 26 (Operand.tmp 19)) (T := 26) (v := ?vzz52) rfl rfl rfl rfl (by kernel_rfl) (by kernel_rfl) (by kernel_rfl) (fun _ _ _ h => h) (by rfl) ?hzz52 hHeld ?rzz52
            case hzz52 => (intro w' hSw; (try dsimp only at hSw); go_simp <;> with_reducible rfl)
            try simp only [Act.put, List.setIfInBounds_toArray, List.set_cons_zero, List.set_cons_succ]
            refine call_op (i := 1) (d := 186) (OP := Op.call { callee := Callee.value (Operand.func 12), args := #[Operand.tmp 185], argTypes := #[26] }) (T := 3) (f := 12) (args := #[.agg #[.pointer pa]]) rfl rfl rfl rfl (by kernel_rfl) (by rfl) (by go_simp) ?_
            refine (cHa _ qd.2.2.2.out).mono ?_
            rintro e w7 ⟨rfl, bw7⟩
            have qw7 : w7.cell? ⟨w5.heap.size, 0, none⟩ = some (.pointer px) ∧ w7.cell? ⟨w1.heap.size, 0, none⟩ = some (.pointer pa) ∧ w7.cell? ⟨w1.heap.size + 1, 0, none⟩ = some (.pointer pb) ∧ Hid (Below w6.heap.size w6 w7) := ⟨cell_stays qd.1 bw7, cell_stays qd.2.1 bw7, cell_stays qd.2.2.1 bw7, hide (qd.2.2.2.out.trans (bw7.mono qd.2.2.2.out.size))⟩
            refine ⟨_, rfl, qw7, ?_⟩
            replace hHeld := qw7
            try simp only [Act.put, List.setIfInBounds_toArray, List.set_cons_zero, List.set_cons_succ]
            refine call_op (i := 3) (d := 188) (OP := Op.call { callee := Callee.value (Operand.func 12), args := #[Operand.tmp 187], argTypes := #[26] }) (T := 3) (f := 12) (args := #[.agg #[.pointer pb]]) rfl rfl rfl rfl (by kernel_rfl) (by rfl) (by go_simp) ?_
            refine (cHb _ qw7.2.2.2.out).mono ?_
            rintro e w8 ⟨rfl, bw8⟩
            have qw8 : w8.cell? ⟨w5.heap.size, 0, none⟩ = some (.pointer px) ∧ w8.cell? ⟨w1.heap.size, 0, none⟩ = some (.pointer pa) ∧ w8.cell? ⟨w1.heap.size + 1, 0, none⟩ = some (.pointer pb) ∧ Hid (Below w6.heap.size w6 w8) := ⟨cell_stays qw7.1 bw8, cell_stays qw7.2.1 bw8, cell_stays qw7.2.2.1 bw8, hide (qw7.2.2.2.out.trans (bw8.mono qw7.2.2.2.out.size))⟩
            refine ⟨_, rfl, qw8, ?_⟩
            replace hHeld := qw8
            try simp only [Act.put, List.setIfInBounds_toArray, List.set_cons_zero, List.set_cons_succ]
            refine take_op (i := 4) (d := 189) (OP := Op.binOp BinOp.sub 3 (Operand.tmp 186) (Operand.tmp 188) 3) (T := 3) (v := ?vzz53) rfl rfl rfl rfl (by kernel_rfl) (by kernel_rfl) (by kernel_rfl) (fun _ _ _ h => h) (by rfl) ?hzz53 hHeld ?rzz53
            case hzz53 => (intro w' hSw; (try dsimp only at hSw); go_simp <;> with_reducible rfl)
            try simp only [Act.put, List.setIfInBounds_toArray, List.set_cons_zero, List.set_cons_succ]
            refine take_op (i := 5) (d := 25) (OP := Op.assign (Operand.tmp 189)) (T := 3) (v := ?vzz54) rfl rfl rfl rfl (by kernel_rfl) (by kernel_rfl) (by kernel_rfl) (fun _ _ _ h => h) (by rfl) ?hzz54 hHeld ?rzz54
            case hzz54 => (intro w' hSw; (try dsimp only at hSw); go_simp <;> with_reducible rfl)
            try simp only [Act.put, List.setIfInBounds_toArray, List.set_cons_zero, List.set_cons_succ]
            refine wpAnyH_done (by kernel_rfl) ?_ _
            obtain ⟨D, hD⟩ : ∃ D : Int, D = (HA : Int) - (HB : Int) := ⟨_, rfl⟩
            rw [← hD] at hxf ⊢
            have hD1 : -100 ≤ D ∧ D ≤ 100 := by omega
            clear hD wd wd2 cHa cHb
            obtain ⟨M4, hM4⟩ : ∃ M4 : Int, M4 = max D (-D) := ⟨_, rfl⟩
            have hM1 : 0 ≤ M4 ∧ M4 ≤ 100 := by omega
            rw [← hM4] at hxf
            have wn : IntKind.i64.wrap (-D) = -D := by rw [IntKind.wrap_i64]; omega
            have wn2 : wrap64 (-D) = -D := by unfold wrap64; omega
            have wa1 : IntKind.i64.wrap ((XN : Int) - (SA : Int)) = (XN : Int) - (SA : Int) := by rw [IntKind.wrap_i64]; omega
            have wa2 : wrap64 ((XN : Int) - (SA : Int)) = (XN : Int) - (SA : Int) := by unfold wrap64; omega
            have wb1 : IntKind.i64.wrap ((XN : Int) - (SA : Int) - (SB : Int)) = (XN : Int) - (SA : Int) - (SB : Int) := by rw [IntKind.wrap_i64]; omega
            have wb2 : wrap64 ((XN : Int) - (SA : Int) - (SB : Int)) = (XN : Int) - (SA : Int) - (SB : Int) := by unfold wrap64; omega
            have wm1 : max D (-D) = M4 := hM4.symm
            have wm2 : IntKind.i64.wrap (M4 + 4) = M4 + 4 := by rw [IntKind.wrap_i64]; omega
            have z9 : ¬ (M4 + 4 < (XN : Int) - (SA : Int) - (SB : Int)) := by omega
            have z10 : decide (M4 + 4 < (XN : Int) - (SA : Int) - (SB : Int)) = false := by simpa using z9
            clear hM4
            go_upto_region 32 with (fail)
            have qd : w8.drew.cell? ⟨w5.heap.size, 0, none⟩ = some (.pointer px) ∧ w8.drew.cell? ⟨w1.heap.size, 0, none⟩ = some (.pointer pa) ∧ w8.drew.cell? ⟨w1.heap.size + 1, 0, none⟩ = some (.pointer pb) ∧ Hid (Below w6.heap.size w6 w8.drew) := ⟨qw8.1, qw8.2.1, qw8.2.2.1, hide (qw8.2.2.2.out.trans ((drew_below w8).mono qw8.2.2.2.out.size))⟩
            refine wp_region_held_drew (S := (fun w' => w'.cell? ⟨w5.heap.size, 0, none⟩ = some (.pointer px) ∧ w'.cell? ⟨w1.heap.size, 0, none⟩ = some (.pointer pa) ∧ w'.cell? ⟨w1.heap.size + 1, 0, none⟩ = some (.pointer pb) ∧ Hid (Below w6.heap.size w6 w'))) (by kernel_rfl) qd (fun hHeld => ?_)
            try dsimp only at hHeld
            refine take_op (i := 0) (d := 190) (OP := Op.move (Operand.tmp 24)) (T := 46) (v := ?vzz55) rfl rfl rfl rfl (by kernel_rfl) (by kernel_rfl) (by kernel_rfl) (fun _ _ _ h => h) (by rfl) ?hzz55 hHeld ?rzz55
            case hzz55 => (intro w' hSw; (try dsimp only at hSw); go_simp <;> with_reducible rfl)
            try simp only [Act.put, List.setIfInBounds_toArray, List.set_cons_zero, List.set_cons_succ]
            refine take_op (i := 1) (d := 191) (OP := Op.binOp BinOp.neq 46 (Operand.tmp 190) (Operand.const (Value.int IntKind.i64 0)) 46) (T := 4) (v := ?vzz56) rfl rfl rfl rfl (by kernel_rfl) (by kernel_rfl) (by kernel_rfl) (fun _ _ _ h => h) (by rfl) ?hzz56 hHeld ?rzz56
            case hzz56 => (intro w' hSw; (try dsimp only at hSw); go_simp <;> with_reducible rfl)
            try simp only [Act.put, List.setIfInBounds_toArray, List.set_cons_zero, List.set_cons_succ]
            refine take_op (i := 2) (d := 192) (OP := Op.move (Operand.tmp 191)) (T := 4) (v := ?vzz57) rfl rfl rfl rfl (by kernel_rfl) (by kernel_rfl) (by kernel_rfl) (fun _ _ _ h => h) (by rfl) ?hzz57 hHeld ?rzz57
            case hzz57 => (intro w' hSw; (try dsimp only at hSw); go_simp <;> with_reducible rfl)
            try simp only [Act.put, List.setIfInBounds_toArray, List.set_cons_zero, List.set_cons_succ]
            refine take_op (i := 3) (d := 193) (OP := Op.load 26 (Operand.tmp 23)) (T := 26) (v := ?vzz58) rfl rfl rfl rfl (by kernel_rfl) (by kernel_rfl) (by kernel_rfl) (fun _ _ _ h => h) (by rfl) ?hzz58 hHeld ?rzz58
            case hzz58 => (intro w' hSw; (try dsimp only at hSw); go_simp <;> with_reducible rfl)
            try simp only [Act.put, List.setIfInBounds_toArray, List.set_cons_zero, List.set_cons_succ]
            refine take_op (i := 5) (d := 195) (OP := Op.load 26 (Operand.tmp 23)) (T := 26) (v := ?vzz59) rfl rfl rfl rfl (by kernel_rfl) (by kernel_rfl) (by kernel_rfl) (fun _ _ _ h => h) (by rfl) ?hzz59 hHeld ?rzz59
            case hzz59 => (intro w' hSw; (try dsimp only at hSw); go_simp <;> with_reducible rfl)
            try simp only [Act.put, List.setIfInBounds_toArray, List.set_cons_zero, List.set_cons_succ]
            refine take_op (i := 6) (d := 196) (OP := Op.load 26 (Operand.tmp 16)) (T := 26) (v := ?vzz60) rfl rfl rfl rfl (by kernel_rfl) (by kernel_rfl) (by kernel_rfl) (fun _ _ _ h => h) (by rfl) ?hzz60 hHeld ?rzz60
            case hzz60 => (intro w' hSw; (try dsimp only at hSw); go_simp <;> with_reducible rfl)
            try simp only [Act.put, List.setIfInBounds_toArray, List.set_cons_zero, List.set_cons_succ]
            refine take_op (i := 9) (d := 199) (OP := Op.load 26 (Operand.tmp 23)) (T := 26) (v := ?vzz61) rfl rfl rfl rfl (by kernel_rfl) (by kernel_rfl) (by kernel_rfl) (fun _ _ _ h => h) (by rfl) ?hzz61 hHeld ?rzz61
            case hzz61 => (intro w' hSw; (try dsimp only at hSw); go_simp <;> with_reducible rfl)
            try simp only [Act.put, List.setIfInBounds_toArray, List.set_cons_zero, List.set_cons_succ]
            refine take_op (i := 10) (d := 200) (OP := Op.load 26 (Operand.tmp 19)) (T := 26) (v := ?vzz62) rfl rfl rfl rfl (by kernel_rfl) (by kernel_rfl) (by kernel_rfl) (fun _ _ _ h => h) (by rfl) ?hzz62 hHeld ?rzz62
            case hzz62 => (intro w' hSw; (try dsimp only at hSw); go_simp <;> with_reducible rfl)
            try simp only [Act.put, List.setIfInBounds_toArray, List.set_cons_zero, List.set_cons_succ]
            refine take_op (i := 13) (d := 203) (OP := Op.move (Operand.tmp 25)) (T := 3) (v := ?vzz63) rfl rfl rfl rfl (by kernel_rfl) (by kernel_rfl) (by kernel_rfl) (fun _ _ _ h => h) (by rfl) ?hzz63 hHeld ?rzz63
            case hzz63 => (intro w' hSw; (try dsimp only at hSw); go_simp <;> with_reducible rfl)
            try simp only [Act.put, List.setIfInBounds_toArray, List.set_cons_zero, List.set_cons_succ]
            refine take_op (i := 14) (d := 204) (OP := Op.move (Operand.tmp 25)) (T := 3) (v := ?vzz64) rfl rfl rfl rfl (by kernel_rfl) (by kernel_rfl) (by kernel_rfl) (fun _ _ _ h => h) (by rfl) ?hzz64 hHeld ?rzz64
            case hzz64 => (intro w' hSw; (try dsimp only at hSw); go_simp <;> with_reducible rfl)
            try simp only [Act.put, List.setIfInBounds_toArray, List.set_cons_zero, List.set_cons_succ]
            refine take_op (i := 15) (d := 205) (OP := Op.unOp UnOp.neg 3 (Operand.tmp 204)) (T := 3) (v := ?vzz65) rfl rfl rfl rfl (by kernel_rfl) (by kernel_rfl) (by kernel_rfl) (fun _ _ _ h => h) (by rfl) ?hzz65 hHeld ?rzz65
            case hzz65 => (intro w' hSw; (try dsimp only at hSw); go_simp <;> with_reducible rfl)
            try simp only [Act.put, List.setIfInBounds_toArray, List.set_cons_zero, List.set_cons_succ]
            refine take_op (i := 16) (d := 206) (OP := Op.call { callee := Callee.builtin Builtin.max, args := #[Operand.tmp 203, Operand.tmp 205], argTypes := #[3, 3] }) (T := 3) (v := ?vzz66) rfl rfl rfl rfl (by kernel_rfl) (by kernel_rfl) (by kernel_rfl) (fun _ _ _ h => h) (by rfl) ?hzz66 hHeld ?rzz66
            case hzz66 => (intro w' hSw; (try dsimp only at hSw); go_simp <;> with_reducible rfl)
            try simp only [Act.put, List.setIfInBounds_toArray, List.set_cons_zero, List.set_cons_succ]
            refine take_op (i := 17) (d := 207) (OP := Op.binOp BinOp.add 3 (Operand.tmp 206) (Operand.const (Value.int IntKind.i64 4)) 3) (T := 3) (v := ?vzz67) rfl rfl rfl rfl (by kernel_rfl) (by kernel_rfl) (by kernel_rfl) (fun _ _ _ h => h) (by rfl) ?hzz67 hHeld ?rzz67
            case hzz67 => (intro w' hSw; (try dsimp only at hSw); go_simp <;> with_reducible rfl)
            try simp only [Act.put, List.setIfInBounds_toArray, List.set_cons_zero, List.set_cons_succ]
            refine call_op (i := 4) (d := 194) (OP := Op.call { callee := Callee.value (Operand.func 19), args := #[Operand.tmp 193], argTypes := #[26] }) (T := 3) (f := 19) (args := #[.agg #[.pointer px]]) rfl rfl rfl rfl (by kernel_rfl) (by rfl) (by go_simp) ?_
            refine (cL _ qd.2.2.2.out).mono ?_
            rintro e y1 ⟨rfl, by1⟩
            have qy1 : y1.cell? ⟨w5.heap.size, 0, none⟩ = some (.pointer px) ∧ y1.cell? ⟨w1.heap.size, 0, none⟩ = some (.pointer pa) ∧ y1.cell? ⟨w1.heap.size + 1, 0, none⟩ = some (.pointer pb) ∧ Hid (Below w6.heap.size w6 y1) := ⟨cell_stays qd.1 by1, cell_stays qd.2.1 by1, cell_stays qd.2.2.1 by1, hide (qd.2.2.2.out.trans (by1.mono qd.2.2.2.out.size))⟩
            refine ⟨_, rfl, qy1, ?_⟩
            replace hHeld := qy1
            try simp only [Act.put, List.setIfInBounds_toArray, List.set_cons_zero, List.set_cons_succ]
            refine call_op (i := 7) (d := 197) (OP := Op.call { callee := Callee.value (Operand.func 20), args := #[Operand.tmp 195, Operand.tmp 196], argTypes := #[26, 26] }) (T := 3) (f := 20) (args := #[.agg #[.pointer px], .agg #[.pointer pa]]) rfl rfl rfl rfl (by kernel_rfl) (by rfl) (by go_simp) ?_
            refine (cSa _ qy1.2.2.2.out).mono ?_
            rintro e y2 ⟨rfl, by2⟩
            have qy2 : y2.cell? ⟨w5.heap.size, 0, none⟩ = some (.pointer px) ∧ y2.cell? ⟨w1.heap.size, 0, none⟩ = some (.pointer pa) ∧ y2.cell? ⟨w1.heap.size + 1, 0, none⟩ = some (.pointer pb) ∧ Hid (Below w6.heap.size w6 y2) := ⟨cell_stays qy1.1 by2, cell_stays qy1.2.1 by2, cell_stays qy1.2.2.1 by2, hide (qy1.2.2.2.out.trans (by2.mono qy1.2.2.2.out.size))⟩
            refine ⟨_, rfl, qy2, ?_⟩
            replace hHeld := qy2
            try simp only [Act.put, List.setIfInBounds_toArray, List.set_cons_zero, List.set_cons_succ]
            refine take_op (i := 8) (d := 198) (OP := Op.binOp BinOp.sub 3 (Operand.tmp 194) (Operand.tmp 197) 3) (T := 3) (v := ?vzz68) rfl rfl rfl rfl (by kernel_rfl) (by kernel_rfl) (by kernel_rfl) (fun _ _ _ h => h) (by rfl) ?hzz68 hHeld ?rzz68
            case hzz68 => (intro w' hSw; (try dsimp only at hSw); go_simp <;> with_reducible rfl)
            try simp only [Act.put, List.setIfInBounds_toArray, List.set_cons_zero, List.set_cons_succ]
            refine call_op (i := 11) (d := 201) (OP := Op.call { callee := Callee.value (Operand.func 20), args := #[Operand.tmp 199, Operand.tmp 200], argTypes := #[26, 26] }) (T := 3) (f := 20) (args := #[.agg #[.pointer px], .agg #[.pointer pb]]) rfl rfl rfl rfl (by kernel_rfl) (by rfl) (by go_simp) ?_
            refine (cSb _ qy2.2.2.2.out).mono ?_
            rintro e y3 ⟨rfl, by3⟩
            have qy3 : y3.cell? ⟨w5.heap.size, 0, none⟩ = some (.pointer px) ∧ y3.cell? ⟨w1.heap.size, 0, none⟩ = some (.pointer pa) ∧ y3.cell? ⟨w1.heap.size + 1, 0, none⟩ = some (.pointer pb) ∧ Hid (Below w6.heap.size w6 y3) := ⟨cell_stays qy2.1 by3, cell_stays qy2.2.1 by3, cell_stays qy2.2.2.1 by3, hide (qy2.2.2.2.out.trans (by3.mono qy2.2.2.2.out.size))⟩
            refine ⟨_, rfl, qy3, ?_⟩
            replace hHeld := qy3
            try simp only [Act.put, List.setIfInBounds_toArray, List.set_cons_zero, List.set_cons_succ]
            refine take_op (i := 12) (d := 202) (OP := Op.binOp BinOp.sub 3 (Operand.tmp 198) (Operand.tmp 201) 3) (T := 3) (v := ?vzz69) rfl rfl rfl rfl (by kernel_rfl) (by kernel_rfl) (by kernel_rfl) (fun _ _ _ h => h) (by rfl) ?hzz69 hHeld ?rzz69
            case hzz69 => (intro w' hSw; (try dsimp only at hSw); go_simp <;> with_reducible rfl)
            try simp only [Act.put, List.setIfInBounds_toArray, List.set_cons_zero, List.set_cons_succ]
            refine take_op (i := 18) (d := 208) (OP := Op.binOp BinOp.gtr 3 (Operand.tmp 202) (Operand.tmp 207) 3) (T := 4) (v := ?vzz70) rfl rfl rfl rfl (by kernel_rfl) (by kernel_rfl) (by kernel_rfl) (fun _ _ _ h => h) (by rfl) ?hzz70 hHeld ?rzz70
            case hzz70 => (intro w' hSw; (try dsimp only at hSw); go_simp <;> with_reducible rfl)
            try simp only [Act.put, List.setIfInBounds_toArray, List.set_cons_zero, List.set_cons_succ]
            refine take_op (i := 19) (d := 209) (OP := Op.pick (Operand.tmp 192) (Operand.const (Value.bool true)) (Operand.tmp 208)) (T := 4) (v := ?vzz71) rfl rfl rfl rfl (by kernel_rfl) (by kernel_rfl) (by kernel_rfl) (fun _ _ _ h => h) (by rfl) ?hzz71 hHeld ?rzz71
            case hzz71 => (intro w' hSw; (try dsimp only at hSw); go_simp <;> with_reducible rfl)
            try simp only [Act.put, List.setIfInBounds_toArray, List.set_cons_zero, List.set_cons_succ]
            refine wpAnyH_done (by kernel_rfl) ?_ _
            have B3 := qy3.2.2.2
            have d23 := qy3.1
            have e1 := cell_stays e1 B3.out
            have e2 := cell_stays e2 B3.out
            obtain ⟨hpx, hxb, hxl, hxn', ix6, bm6⟩ := HX6.out
            have bk3 : Below wk.heap.size wk y3 := (HBKM.out.1.trans (bm6.mono HBKM.out.1.size)).trans (B3.out.mono (HBKM.out.1.trans (bm6.mono HBKM.out.1.size)).size)
            have hbw3 : Below w.heap.size w y3 := (HL.out.below.trans (HBK.out.1.mono HL.out.below.size)).trans (bk3.mono (HL.out.below.trans (HBK.out.1.mono HL.out.below.size)).size)
            have lp := HLP.out
            have q9 : y3.cell? ⟨wr.heap.size, 1, none⟩ = some (.string ky) ∧ y3.cell? ⟨wr.heap.size, 2, none⟩ = some (.int .i64 vl) ∧ y3.cell? ⟨w5.heap.size, 0, none⟩ = some (.pointer px) ∧ Hid (Below w.heap.size w y3) := ⟨e1, e2, d23, hide hbw3⟩
            have hw5 : wk.heap.size ≤ w5.heap.size := Nat.le_trans (Nat.le_trans HBKM.out.1.size HT2.out.size) H5s.out
            clear cL cSa cSb z9 z10 wn wn2 wa1 wa2 wb1 wb2 wm1 wm2 qd qw7 qw8 qy1 qy2 qy3 hHeld q6 hxf hM1 hD1
            go_upto_region 34 with (fail)
            have qd : y3.drew.cell? ⟨wr.heap.size, 1, none⟩ = some (.string ky) ∧ y3.drew.cell? ⟨wr.heap.size, 2, none⟩ = some (.int .i64 vl) ∧ y3.drew.cell? ⟨w5.heap.size, 0, none⟩ = some (.pointer px) ∧ Hid (Below w.heap.size w y3.drew) := ⟨q9.1, q9.2.1, q9.2.2.1, hide (q9.2.2.2.out.trans ((drew_below y3).mono q9.2.2.2.out.size))⟩
            refine wp_region_held_drew (S := (fun w' => w'.cell? ⟨wr.heap.size, 1, none⟩ = some (.string ky) ∧ w'.cell? ⟨wr.heap.size, 2, none⟩ = some (.int .i64 vl) ∧ w'.cell? ⟨w5.heap.size, 0, none⟩ = some (.pointer px) ∧ Hid (Below w.heap.size w w'))) (by kernel_rfl) qd (fun hHeld => ?_)
            try dsimp only at hHeld
            refine take_op (i := 0) (d := 210) (OP := Op.load 26 (Operand.tmp 23)) (T := 26) (v := ?vzz72) rfl rfl rfl rfl (by kernel_rfl) (by kernel_rfl) (by kernel_rfl) (fun _ _ _ h => h) (by rfl) ?hzz72 hHeld ?rzz72
            case hzz72 => (intro w' hSw; (try dsimp only at hSw); go_simp <;> with_reducible rfl)
            try simp only [Act.put, List.setIfInBounds_toArray, List.set_cons_zero, List.set_cons_succ]
            refine take_op (i := 1) (d := 211) (OP := Op.move (Operand.tmp 8)) (T := 27) (v := ?vzz73) rfl rfl rfl rfl (by kernel_rfl) (by kernel_rfl) (by kernel_rfl) (fun _ _ _ h => h) (by rfl) ?hzz73 hHeld ?rzz73
            case hzz73 => (intro w' hSw; (try dsimp only at hSw); go_simp <;> with_reducible rfl)
            try simp only [Act.put, List.setIfInBounds_toArray, List.set_cons_zero, List.set_cons_succ]
            refine take_op (i := 2) (d := 212) (OP := Op.fieldAddr 31 (Operand.tmp 12) 1) (T := 0) (v := ?vzz74) rfl rfl rfl rfl (by kernel_rfl) (by kernel_rfl) (by kernel_rfl) (fun _ _ _ h => h) (by rfl) ?hzz74 hHeld ?rzz74
            case hzz74 => (intro w' hSw; (try dsimp only at hSw); go_simp <;> with_reducible rfl)
            try simp only [Act.put, List.setIfInBounds_toArray, List.set_cons_zero, List.set_cons_succ]
            refine take_op (i := 3) (d := 213) (OP := Op.load 9 (Operand.tmp 212)) (T := 9) (v := ?vzz75) rfl rfl rfl rfl (by kernel_rfl) (by kernel_rfl) (by kernel_rfl) (fun _ _ _ h => h) (by rfl) ?hzz75 hHeld ?rzz75
            case hzz75 => (intro w' hSw; (try dsimp only at hSw); go_simp <;> with_reducible rfl)
            try simp only [Act.put, List.setIfInBounds_toArray, List.set_cons_zero, List.set_cons_succ]
            refine take_op (i := 4) (d := 214) (OP := Op.fieldAddr 31 (Operand.tmp 12) 2) (T := 0) (v := ?vzz76) rfl rfl rfl rfl (by kernel_rfl) (by kernel_rfl) (by kernel_rfl) (fun _ _ _ h => h) (by rfl) ?hzz76 hHeld ?rzz76
            case hzz76 => (intro w' hSw; (try dsimp only at hSw); go_simp <;> with_reducible rfl)
            try simp only [Act.put, List.setIfInBounds_toArray, List.set_cons_zero, List.set_cons_succ]
            refine take_op (i := 5) (d := 215) (OP := Op.load 3 (Operand.tmp 214)) (T := 3) (v := ?vzz77) rfl rfl rfl rfl (by kernel_rfl) (by kernel_rfl) (by kernel_rfl) (fun _ _ _ h => h) (by rfl) ?hzz77 hHeld ?rzz77
            case hzz77 => (intro w' hSw; (try dsimp only at hSw); go_simp <;> with_reducible rfl)
            try simp only [Act.put, List.setIfInBounds_toArray, List.set_cons_zero, List.set_cons_succ]
            refine call_op (i := 6) (d := 216) (OP := Op.call { callee := Callee.value (Operand.func 10), args := #[Operand.tmp 211, Operand.tmp 213, Operand.tmp 215], argTypes := #[27, 9, 3] }) (T := 27) (f := 10) (args := #[.slice (some ⟨eb, eo, none⟩) L8 cap, .string ky, .int .i64 vl]) rfl rfl rfl rfl (by kernel_rfl) (by rfl) (by go_simp) ?_
            refine (lp _ (bk3.trans ((drew_below y3).mono bk3.size))).mono ?_
            rintro e y4 ⟨sv', rfl, e4, b4⟩
            have b34 : Below y3.heap.size y3 y4 := (drew_below y3).trans (b4.mono (drew_below y3).size)
            have bk4 : Below wk.heap.size wk y4 := bk3.trans (b34.mono bk3.size)
            have qy4 : y4.cell? ⟨wr.heap.size, 1, none⟩ = some (.string ky) ∧ y4.cell? ⟨wr.heap.size, 2, none⟩ = some (.int .i64 vl) ∧ y4.cell? ⟨w5.heap.size, 0, none⟩ = some (.pointer px) ∧ Hid (Below w.heap.size w y4) := ⟨cell_stays qd.1 b4, cell_stays qd.2.1 b4, cell_stays qd.2.2.1 b4, hide (qd.2.2.2.out.trans (b4.mono qd.2.2.2.out.size))⟩
            refine ⟨_, rfl, qy4, ?_⟩
            replace hHeld := qy4
            try simp only [Act.put, List.setIfInBounds_toArray, List.set_cons_zero, List.set_cons_succ]
            have hlt7 := HBK.out.2.2
            have h2 : y4.heap[w.heap.size]? = some (.cells #[.pointer a] 26 (0, 0)) := (bk4.block _ (Nat.lt_of_lt_of_le hlt7 HBK.out.1.size)).trans hk7.out
            have c2 : y4.cell? ⟨w.heap.size, 0, none⟩ = some (.pointer a) := (cell_of_row _ _ 0 _ 26 (0, 0) h2).trans rfl
            have f2 : y4.frozen? ⟨w.heap.size, 0, none⟩ = false := frozen_of_row _ _ 0 _ 26 h2
            have ix4 : In y4 x := In.below b34 (In.below B3.out ix6)
            obtain ⟨hI, o3, o2⟩ := HL.out.next (m := i + 1) (HBK.out.1.trans (bk4.mono HBK.out.1.size)) ix4 hxb (by rw [hxl]; exact srt_insP HL.out.srt ky vl) (by rw [hxl]; exact e4.1) e4.2 (by rw [← T.n_eq, hxl]; have := hins0; omega) h2 hpx
            have hsz5 : wr.heap.size ≤ w5.heap.size := Nat.le_trans HBK.out.1.size hw5
            have q10 : (y4.setCell ⟨w.heap.size, 0, none⟩ (.pointer px)).cell? ⟨wr.heap.size, 1, none⟩ = some (.string ky) ∧ (y4.setCell ⟨w.heap.size, 0, none⟩ (.pointer px)).cell? ⟨wr.heap.size, 2, none⟩ = some (.int .i64 vl) ∧ (y4.setCell ⟨w.heap.size, 0, none⟩ (.pointer px)).cell? ⟨w5.heap.size, 0, none⟩ = some (.pointer px) ∧ Hid (Below w.heap.size w (y4.setCell ⟨w.heap.size, 0, none⟩ (.pointer px))) := ⟨o3.cell qy4.1 (by simp; omega), o3.cell qy4.2.1 (by simp; omega), o3.cell qy4.2.2.1 (by simp; omega), hide o2⟩
            have HI3 := hide hI
            obtain ⟨z3w, hz3⟩ : ∃ z3w, z3w = y4.setCell ⟨w.heap.size, 0, none⟩ (.pointer px) := ⟨_, rfl⟩
            rw [← hz3] at hI HI3 q10
            refine skip_op (i := 7) (OP := Op.store 26 (Operand.tmp 7) (Operand.tmp 210)) (T := 0) (w' := z3w) rfl rfl rfl rfl (by kernel_rfl) (by rfl) (by rw [hz3]; go_simp) ⟨q10, ?_⟩
            try simp only [Act.put, List.setIfInBounds_toArray, List.set_cons_zero, List.set_cons_succ]
            replace hHeld := q10
            refine take_op (i := 8) (d := 8) (OP := Op.assign (Operand.tmp 216)) (T := 27) (v := ?vzz78) rfl rfl rfl rfl (by kernel_rfl) (by kernel_rfl) (by kernel_rfl) (fun _ _ _ h => h) (by rfl) ?hzz78 hHeld ?rzz78
            case hzz78 => (intro w' hSw; (try dsimp only at hSw); go_simp <;> with_reducible rfl)
            try simp only [Act.put, List.setIfInBounds_toArray, List.set_cons_zero, List.set_cons_succ]
            refine wpAnyH_done (by kernel_rfl) ?_ _
            clear hI o3 o2 q10 hHeld qy4 h2 c2 f2 ix4 e4 hz3
            go_wp2_with fail
            go_meet
            exact ⟨x, HI3⟩
          | false =>
           as_aux_lemma =>
            have hfv : fv = 0 := HF01.out.1 rfl
            subst hfv
            simp only [if_neg Bool.false_ne_true] at sl2 ct2
            have q0 : wm.cell? ⟨w1.heap.size, 0, none⟩ = some (.pointer pa) ∧ wm.cell? ⟨w1.heap.size + 1, 0, none⟩ = some (.pointer pb) ∧ Hid (Below wm.heap.size wm wm) := ⟨cm16, cm19, hide (Below.refl _ _)⟩
            clear hGl
            clear hQl
            go_upto_region 28 with (fail)
            have qd : wm.drew.cell? ⟨w1.heap.size, 0, none⟩ = some (.pointer pa) ∧ wm.drew.cell? ⟨w1.heap.size + 1, 0, none⟩ = some (.pointer pb) ∧ Hid (Below wm.heap.size wm wm.drew) := ⟨q0.1, q0.2.1, hide (q0.2.2.out.trans ((drew_below wm).mono q0.2.2.out.size))⟩
            refine wp_region_held_drew (S := (fun w' => w'.cell? ⟨w1.heap.size, 0, none⟩ = some (.pointer pa) ∧ w'.cell? ⟨w1.heap.size + 1, 0, none⟩ = some (.pointer pb) ∧ Hid (Below wm.heap.size wm w'))) (by kernel_rfl) qd (fun hHeld => ?_)
            try dsimp only at hHeld
            refine take_op (i := 0) (d := 132) (OP := Op.move (Operand.tmp 18)) (T := 4) (v := ?vzz79) rfl rfl rfl rfl (by kernel_rfl) (by kernel_rfl) (by kernel_rfl) (fun _ _ _ h => h) (by rfl) ?hzz79 hHeld ?rzz79
            case hzz79 => (intro w' hSw; (try dsimp only at hSw); go_simp <;> with_reducible rfl)
            try simp only [Act.put, List.setIfInBounds_toArray, List.set_cons_zero, List.set_cons_succ]
            refine take_op (i := 1) (d := 133) (OP := Op.move (Operand.tmp 15)) (T := 4) (v := ?vzz80) rfl rfl rfl rfl (by kernel_rfl) (by kernel_rfl) (by kernel_rfl) (fun _ _ _ h => h) (by rfl) ?hzz80 hHeld ?rzz80
            case hzz80 => (intro w' hSw; (try dsimp only at hSw); go_simp <;> with_reducible rfl)
            try simp only [Act.put, List.setIfInBounds_toArray, List.set_cons_zero, List.set_cons_succ]
            refine take_op (i := 2) (d := 134) (OP := Op.binOp BinOp.neq 4 (Operand.tmp 132) (Operand.tmp 133) 4) (T := 4) (v := ?vzz81) rfl rfl rfl rfl (by kernel_rfl) (by kernel_rfl) (by kernel_rfl) (fun _ _ _ h => h) (by rfl) ?hzz81 hHeld ?rzz81
            case hzz81 => (intro w' hSw; (try dsimp only at hSw); go_simp <;> with_reducible rfl)
            try simp only [Act.put, List.setIfInBounds_toArray, List.set_cons_zero, List.set_cons_succ]
            refine take_op (i := 3) (d := 135) (OP := Op.move (Operand.tmp 134)) (T := 4) (v := ?vzz82) rfl rfl rfl rfl (by kernel_rfl) (by kernel_rfl) (by kernel_rfl) (fun _ _ _ h => h) (by rfl) ?hzz82 hHeld ?rzz82
            case hzz82 => (intro w' hSw; (try dsimp only at hSw); go_simp <;> with_reducible rfl)
            try simp only [Act.put, List.setIfInBounds_toArray, List.set_cons_zero, List.set_cons_succ]
            refine take_op (i := 4) (d := 136) (OP := Op.move (Operand.tmp 18)) (T := 4) (v := ?vzz83) rfl rfl rfl rfl (by kernel_rfl) (by kernel_rfl) (by kernel_rfl) (fun _ _ _ h => h) (by rfl) ?hzz83 hHeld ?rzz83
            case hzz83 => (intro w' hSw; (try dsimp only at hSw); go_simp <;> with_reducible rfl)
            try simp only [Act.put, List.setIfInBounds_toArray, List.set_cons_zero, List.set_cons_succ]
            refine take_op (i := 5) (d := 137) (OP := Op.move (Operand.tmp 136)) (T := 4) (v := ?vzz84) rfl rfl rfl rfl (by kernel_rfl) (by kernel_rfl) (by kernel_rfl) (fun _ _ _ h => h) (by rfl) ?hzz84 hHeld ?rzz84
            case hzz84 => (intro w' hSw; (try dsimp only at hSw); go_simp <;> with_reducible rfl)
            try simp only [Act.put, List.setIfInBounds_toArray, List.set_cons_zero, List.set_cons_succ]
            refine pass_op (i := 6) (d := 138) rfl rfl (by kernel_rfl) (by kernel_rfl) (by kernel_rfl) (fun _ _ _ h => h) (by rfl) hHeld ?_
            try simp only [Act.put, List.setIfInBounds_toArray, List.set_cons_zero, List.set_cons_succ]
            refine pass_op (i := 7) (d := 139) rfl rfl (by kernel_rfl) (by kernel_rfl) (by kernel_rfl) (fun _ _ _ h => h) (by rfl) hHeld ?_
            try simp only [Act.put, List.setIfInBounds_toArray, List.set_cons_zero, List.set_cons_succ]
            refine pass_op (i := 8) (d := 140) rfl rfl (by kernel_rfl) (by kernel_rfl) (by kernel_rfl) (fun _ _ _ h => h) (by rfl) hHeld ?_
            try simp only [Act.put, List.setIfInBounds_toArray, List.set_cons_zero, List.set_cons_succ]
            refine pass_op (i := 9) (d := 141) rfl rfl (by kernel_rfl) (by kernel_rfl) (by kernel_rfl) (fun _ _ _ h => h) (by rfl) hHeld ?_
            try simp only [Act.put, List.setIfInBounds_toArray, List.set_cons_zero, List.set_cons_succ]
            refine pass_op (i := 10) (d := 142) rfl rfl (by kernel_rfl) (by kernel_rfl) (by kernel_rfl) (fun _ _ _ h => h) (by rfl) hHeld ?_
            try simp only [Act.put, List.setIfInBounds_toArray, List.set_cons_zero, List.set_cons_succ]
            refine pass_op (i := 11) (d := 143) rfl rfl (by kernel_rfl) (by kernel_rfl) (by kernel_rfl) (fun _ _ _ h => h) (by rfl) hHeld ?_
            try simp only [Act.put, List.setIfInBounds_toArray, List.set_cons_zero, List.set_cons_succ]
            refine pass_op (i := 12) (d := 144) rfl rfl (by kernel_rfl) (by kernel_rfl) (by kernel_rfl) (fun _ _ _ h => h) (by rfl) hHeld ?_
            try simp only [Act.put, List.setIfInBounds_toArray, List.set_cons_zero, List.set_cons_succ]
            refine take_op (i := 13) (d := 145) (OP := Op.pick (Operand.tmp 137) (Operand.tmp 144) (Operand.const (Value.bool false))) (T := 4) (v := ?vzz85) rfl rfl rfl rfl (by kernel_rfl) (by kernel_rfl) (by kernel_rfl) (fun _ _ _ h => h) (by rfl) ?hzz85 hHeld ?rzz85
            case hzz85 => (intro w' hSw; (try dsimp only at hSw); go_simp <;> with_reducible rfl)
            try simp only [Act.put, List.setIfInBounds_toArray, List.set_cons_zero, List.set_cons_succ]
            refine take_op (i := 14) (d := 146) (OP := Op.pick (Operand.tmp 135) (Operand.const (Value.bool true)) (Operand.tmp 145)) (T := 4) (v := ?vzz86) rfl rfl rfl rfl (by kernel_rfl) (by kernel_rfl) (by kernel_rfl) (fun _ _ _ h => h) (by rfl) ?hzz86 hHeld ?rzz86
            case hzz86 => (intro w' hSw; (try dsimp only at hSw); go_simp <;> with_reducible rfl)
            try simp only [Act.put, List.setIfInBounds_toArray, List.set_cons_zero, List.set_cons_succ]
            refine take_op (i := 15) (d := 147) (OP := Op.move (Operand.tmp 146)) (T := 4) (v := ?vzz87) rfl rfl rfl rfl (by kernel_rfl) (by kernel_rfl) (by kernel_rfl) (fun _ _ _ h => h) (by rfl) ?hzz87 hHeld ?rzz87
            case hzz87 => (intro w' hSw; (try dsimp only at hSw); go_simp <;> with_reducible rfl)
            try simp only [Act.put, List.setIfInBounds_toArray, List.set_cons_zero, List.set_cons_succ]
            refine take_op (i := 16) (d := 148) (OP := Op.move (Operand.tmp 18)) (T := 4) (v := ?vzz88) rfl rfl rfl rfl (by kernel_rfl) (by kernel_rfl) (by kernel_rfl) (fun _ _ _ h => h) (by rfl) ?hzz88 hHeld ?rzz88
            case hzz88 => (intro w' hSw; (try dsimp only at hSw); go_simp <;> with_reducible rfl)
            try simp only [Act.put, List.setIfInBounds_toArray, List.set_cons_zero, List.set_cons_succ]
            refine take_op (i := 17) (d := 149) (OP := Op.unOp UnOp.not 4 (Operand.tmp 148)) (T := 4) (v := ?vzz89) rfl rfl rfl rfl (by kernel_rfl) (by kernel_rfl) (by kernel_rfl) (fun _ _ _ h => h) (by rfl) ?hzz89 hHeld ?rzz89
            case hzz89 => (intro w' hSw; (try dsimp only at hSw); go_simp <;> with_reducible rfl)
            try simp only [Act.put, List.setIfInBounds_toArray, List.set_cons_zero, List.set_cons_succ]
            refine take_op (i := 18) (d := 150) (OP := Op.move (Operand.tmp 149)) (T := 4) (v := ?vzz90) rfl rfl rfl rfl (by kernel_rfl) (by kernel_rfl) (by kernel_rfl) (fun _ _ _ h => h) (by rfl) ?hzz90 hHeld ?rzz90
            case hzz90 => (intro w' hSw; (try dsimp only at hSw); go_simp <;> with_reducible rfl)
            try simp only [Act.put, List.setIfInBounds_toArray, List.set_cons_zero, List.set_cons_succ]
            refine take_op (i := 19) (d := 151) (OP := Op.move (Operand.tmp 17)) (T := 3) (v := ?vzz91) rfl rfl rfl rfl (by kernel_rfl) (by kernel_rfl) (by kernel_rfl) (fun _ _ _ h => h) (by rfl) ?hzz91 hHeld ?rzz91
            case hzz91 => (intro w' hSw; (try dsimp only at hSw); go_simp <;> with_reducible rfl)
            try simp only [Act.put, List.setIfInBounds_toArray, List.set_cons_zero, List.set_cons_succ]
            refine take_op (i := 20) (d := 152) (OP := Op.binOp BinOp.neq 3 (Operand.tmp 151) (Operand.const (Value.int IntKind.i64 0)) 3) (T := 4) (v := ?vzz92) rfl rfl rfl rfl (by kernel_rfl) (by kernel_rfl) (by kernel_rfl) (fun _ _ _ h => h) (by rfl) ?hzz92 hHeld ?rzz92
            case hzz92 => (intro w' hSw; (try dsimp only at hSw); go_simp <;> with_reducible rfl)
            try simp only [Act.put, List.setIfInBounds_toArray, List.set_cons_zero, List.set_cons_succ]
            refine take_op (i := 21) (d := 153) (OP := Op.pick (Operand.tmp 150) (Operand.tmp 152) (Operand.const (Value.bool false))) (T := 4) (v := ?vzz93) rfl rfl rfl rfl (by kernel_rfl) (by kernel_rfl) (by kernel_rfl) (fun _ _ _ h => h) (by rfl) ?hzz93 hHeld ?rzz93
            case hzz93 => (intro w' hSw; (try dsimp only at hSw); go_simp <;> with_reducible rfl)
            try simp only [Act.put, List.setIfInBounds_toArray, List.set_cons_zero, List.set_cons_succ]
            refine take_op (i := 22) (d := 154) (OP := Op.pick (Operand.tmp 147) (Operand.const (Value.bool true)) (Operand.tmp 153)) (T := 4) (v := ?vzz94) rfl rfl rfl rfl (by kernel_rfl) (by kernel_rfl) (by kernel_rfl) (fun _ _ _ h => h) (by rfl) ?hzz94 hHeld ?rzz94
            case hzz94 => (intro w' hSw; (try dsimp only at hSw); go_simp <;> with_reducible rfl)
            try simp only [Act.put, List.setIfInBounds_toArray, List.set_cons_zero, List.set_cons_succ]
            refine take_op (i := 23) (d := 155) (OP := Op.move (Operand.tmp 154)) (T := 4) (v := ?vzz95) rfl rfl rfl rfl (by kernel_rfl) (by kernel_rfl) (by kernel_rfl) (fun _ _ _ h => h) (by rfl) ?hzz95 hHeld ?rzz95
            case hzz95 => (intro w' hSw; (try dsimp only at hSw); go_simp <;> with_reducible rfl)
            try simp only [Act.put, List.setIfInBounds_toArray, List.set_cons_zero, List.set_cons_succ]
            refine take_op (i := 24) (d := 156) (OP := Op.load 26 (Operand.tmp 16)) (T := 26) (v := ?vzz96) rfl rfl rfl rfl (by kernel_rfl) (by kernel_rfl) (by kernel_rfl) (fun _ _ _ h => h) (by rfl) ?hzz96 hHeld ?rzz96
            case hzz96 => (intro w' hSw; (try dsimp only at hSw); go_simp <;> with_reducible rfl)
            try simp only [Act.put, List.setIfInBounds_toArray, List.set_cons_zero, List.set_cons_succ]
            refine take_op (i := 25) (d := 157) (OP := Op.move (Operand.tmp 8)) (T := 27) (v := ?vzz97) rfl rfl rfl rfl (by kernel_rfl) (by kernel_rfl) (by kernel_rfl) (fun _ _ _ h => h) (by rfl) ?hzz97 hHeld ?rzz97
            case hzz97 => (intro w' hSw; (try dsimp only at hSw); go_simp <;> with_reducible rfl)
            try simp only [Act.put, List.setIfInBounds_toArray, List.set_cons_zero, List.set_cons_succ]
            refine take_op (i := 26) (d := 158) (OP := Op.move (Operand.tmp 20)) (T := 3) (v := ?vzz98) rfl rfl rfl rfl (by kernel_rfl) (by kernel_rfl) (by kernel_rfl) (fun _ _ _ h => h) (by rfl) ?hzz98 hHeld ?rzz98
            case hzz98 => (intro w' hSw; (try dsimp only at hSw); go_simp <;> with_reducible rfl)
            try simp only [Act.put, List.setIfInBounds_toArray, List.set_cons_zero, List.set_cons_succ]
            refine take_op (i := 27) (d := 159) (OP := Op.slice 27 (Operand.tmp 157) none (some (Operand.tmp 158)) none) (T := 27) (v := ?vzz99) rfl rfl rfl rfl (by kernel_rfl) (by kernel_rfl) (by kernel_rfl) (fun _ _ _ h => h) (by rfl) ?hzz99 hHeld ?rzz99
            case hzz99 => (intro w' hSw; (try dsimp only at hSw); go_simp <;> with_reducible rfl)
            try simp only [Act.put, List.setIfInBounds_toArray, List.set_cons_zero, List.set_cons_succ]
            refine take_op (i := 28) (d := 160) (OP := Op.move (Operand.tmp 1)) (T := 3) (v := ?vzz100) rfl rfl rfl rfl (by kernel_rfl) (by kernel_rfl) (by kernel_rfl) (fun _ _ _ h => h) (by rfl) ?hzz100 hHeld ?rzz100
            case hzz100 => (intro w' hSw; (try dsimp only at hSw); go_simp <;> with_reducible rfl)
            try simp only [Act.put, List.setIfInBounds_toArray, List.set_cons_zero, List.set_cons_succ]
            refine take_op (i := 29) (d := 161) (OP := Op.move (Operand.tmp 2)) (T := 9) (v := ?vzz101) rfl rfl rfl rfl (by kernel_rfl) (by kernel_rfl) (by kernel_rfl) (fun _ _ _ h => h) (by rfl) ?hzz101 hHeld ?rzz101
            case hzz101 => (intro w' hSw; (try dsimp only at hSw); go_simp <;> with_reducible rfl)
            try simp only [Act.put, List.setIfInBounds_toArray, List.set_cons_zero, List.set_cons_succ]
            refine call_op (i := 30) (d := 162) (OP := Op.call { callee := Callee.value (Operand.func 17), args := #[Operand.tmp 156, Operand.tmp 159, Operand.tmp 160, Operand.tmp 161], argTypes := #[26, 27, 3, 9] }) (T := 4) (f := 17) (args := #[.agg #[.pointer pa], .slice ao P cap, .int .i64 leave, .string frm]) rfl rfl rfl rfl (by kernel_rfl) (by rfl) (by go_simp) ?_
            refine (ct1 _ qd.2.2.out).mono ?_
            rintro e wt1 ⟨rfl, bwt1⟩
            have qwt1 : wt1.cell? ⟨w1.heap.size, 0, none⟩ = some (.pointer pa) ∧ wt1.cell? ⟨w1.heap.size + 1, 0, none⟩ = some (.pointer pb) ∧ Hid (Below wm.heap.size wm wt1) := ⟨cell_stays qd.1 bwt1, cell_stays qd.2.1 bwt1, hide (qd.2.2.out.trans (bwt1.mono qd.2.2.out.size))⟩
            refine ⟨_, rfl, qwt1, ?_⟩
            replace hHeld := qwt1
            try simp only [Act.put, List.setIfInBounds_toArray, List.set_cons_zero, List.set_cons_succ]
            refine take_op (i := 31) (d := 163) (OP := Op.unOp UnOp.not 4 (Operand.tmp 162)) (T := 4) (v := ?vzz102) rfl rfl rfl rfl (by kernel_rfl) (by kernel_rfl) (by kernel_rfl) (fun _ _ _ h => h) (by rfl) ?hzz102 hHeld ?rzz102
            case hzz102 => (intro w' hSw; (try dsimp only at hSw); go_simp <;> with_reducible rfl)
            try simp only [Act.put, List.setIfInBounds_toArray, List.set_cons_zero, List.set_cons_succ]
            refine take_op (i := 32) (d := 164) (OP := Op.pick (Operand.tmp 155) (Operand.const (Value.bool true)) (Operand.tmp 163)) (T := 4) (v := ?vzz103) rfl rfl rfl rfl (by kernel_rfl) (by kernel_rfl) (by kernel_rfl) (fun _ _ _ h => h) (by rfl) ?hzz103 hHeld ?rzz103
            case hzz103 => (intro w' hSw; (try dsimp only at hSw); go_simp <;> with_reducible rfl)
            try simp only [Act.put, List.setIfInBounds_toArray, List.set_cons_zero, List.set_cons_succ]
            refine take_op (i := 33) (d := 165) (OP := Op.move (Operand.tmp 164)) (T := 4) (v := ?vzz104) rfl rfl rfl rfl (by kernel_rfl) (by kernel_rfl) (by kernel_rfl) (fun _ _ _ h => h) (by rfl) ?hzz104 hHeld ?rzz104
            case hzz104 => (intro w' hSw; (try dsimp only at hSw); go_simp <;> with_reducible rfl)
            try simp only [Act.put, List.setIfInBounds_toArray, List.set_cons_zero, List.set_cons_succ]
            refine take_op (i := 34) (d := 166) (OP := Op.load 26 (Operand.tmp 19)) (T := 26) (v := ?vzz105) rfl rfl rfl rfl (by kernel_rfl) (by kernel_rfl) (by kernel_rfl) (fun _ _ _ h => h) (by rfl) ?hzz105 hHeld ?rzz105
            case hzz105 => (intro w' hSw; (try dsimp only at hSw); go_simp <;> with_reducible rfl)
            try simp only [Act.put, List.setIfInBounds_toArray, List.set_cons_zero, List.set_cons_succ]
            refine take_op (i := 35) (d := 167) (OP := Op.move (Operand.tmp 8)) (T := 27) (v := ?vzz106) rfl rfl rfl rfl (by kernel_rfl) (by kernel_rfl) (by kernel_rfl) (fun _ _ _ h => h) (by rfl) ?hzz106 hHeld ?rzz106
            case hzz106 => (intro w' hSw; (try dsimp only at hSw); go_simp <;> with_reducible rfl)
            try simp only [Act.put, List.setIfInBounds_toArray, List.set_cons_zero, List.set_cons_succ]
            refine take_op (i := 36) (d := 168) (OP := Op.move (Operand.tmp 22)) (T := 3) (v := ?vzz107) rfl rfl rfl rfl (by kernel_rfl) (by kernel_rfl) (by kernel_rfl) (fun _ _ _ h => h) (by rfl) ?hzz107 hHeld ?rzz107
            case hzz107 => (intro w' hSw; (try dsimp only at hSw); go_simp <;> with_reducible rfl)
            try simp only [Act.put, List.setIfInBounds_toArray, List.set_cons_zero, List.set_cons_succ]
            refine take_op (i := 37) (d := 169) (OP := Op.slice 27 (Operand.tmp 167) (some (Operand.tmp 168)) none none) (T := 27) (v := ?vzz108) rfl rfl rfl rfl (by kernel_rfl) (by kernel_rfl) (by kernel_rfl) (fun _ _ _ h => h) (by rfl) ?hzz108 hHeld ?rzz108
            case hzz108 => (intro w' hSw; (try dsimp only at hSw); go_simp <;> with_reducible rfl)
            try simp only [Act.put, List.setIfInBounds_toArray, List.set_cons_zero, List.set_cons_succ]
            refine take_op (i := 38) (d := 170) (OP := Op.move (Operand.tmp 1)) (T := 3) (v := ?vzz109) rfl rfl rfl rfl (by kernel_rfl) (by kernel_rfl) (by kernel_rfl) (fun _ _ _ h => h) (by rfl) ?hzz109 hHeld ?rzz109
            case hzz109 => (intro w' hSw; (try dsimp only at hSw); go_simp <;> with_reducible rfl)
            try simp only [Act.put, List.setIfInBounds_toArray, List.set_cons_zero, List.set_cons_succ]
            refine take_op (i := 39) (d := 171) (OP := Op.move (Operand.tmp 2)) (T := 9) (v := ?vzz110) rfl rfl rfl rfl (by kernel_rfl) (by kernel_rfl) (by kernel_rfl) (fun _ _ _ h => h) (by rfl) ?hzz110 hHeld ?rzz110
            case hzz110 => (intro w' hSw; (try dsimp only at hSw); go_simp <;> with_reducible rfl)
            try simp only [Act.put, List.setIfInBounds_toArray, List.set_cons_zero, List.set_cons_succ]
            refine call_op (i := 40) (d := 172) (OP := Op.call { callee := Callee.value (Operand.func 17), args := #[Operand.tmp 166, Operand.tmp 169, Operand.tmp 170, Operand.tmp 171], argTypes := #[26, 27, 3, 9] }) (T := 4) (f := 17) (args := #[.agg #[.pointer pb], .slice A2 (L8 - P) (cap - P), .int .i64 leave, .string frm]) rfl rfl rfl rfl (by kernel_rfl) (by rfl) (by go_simp) ?_
            refine (ct2 _ qwt1.2.2.out).mono ?_
            rintro e wt2 ⟨rfl, bwt2⟩
            have qwt2 : wt2.cell? ⟨w1.heap.size, 0, none⟩ = some (.pointer pa) ∧ wt2.cell? ⟨w1.heap.size + 1, 0, none⟩ = some (.pointer pb) ∧ Hid (Below wm.heap.size wm wt2) := ⟨cell_stays qwt1.1 bwt2, cell_stays qwt1.2.1 bwt2, hide (qwt1.2.2.out.trans (bwt2.mono qwt1.2.2.out.size))⟩
            refine ⟨_, rfl, qwt2, ?_⟩
            replace hHeld := qwt2
            try simp only [Act.put, List.setIfInBounds_toArray, List.set_cons_zero, List.set_cons_succ]
            refine take_op (i := 41) (d := 173) (OP := Op.unOp UnOp.not 4 (Operand.tmp 172)) (T := 4) (v := ?vzz111) rfl rfl rfl rfl (by kernel_rfl) (by kernel_rfl) (by kernel_rfl) (fun _ _ _ h => h) (by rfl) ?hzz111 hHeld ?rzz111
            case hzz111 => (intro w' hSw; (try dsimp only at hSw); go_simp <;> with_reducible rfl)
            try simp only [Act.put, List.setIfInBounds_toArray, List.set_cons_zero, List.set_cons_succ]
            refine take_op (i := 42) (d := 174) (OP := Op.pick (Operand.tmp 165) (Operand.const (Value.bool true)) (Operand.tmp 173)) (T := 4) (v := ?vzz112) rfl rfl rfl rfl (by kernel_rfl) (by kernel_rfl) (by kernel_rfl) (fun _ _ _ h => h) (by rfl) ?hzz112 hHeld ?rzz112
            case hzz112 => (intro w' hSw; (try dsimp only at hSw); go_simp <;> with_reducible rfl)
            try simp only [Act.put, List.setIfInBounds_toArray, List.set_cons_zero, List.set_cons_succ]
            refine wpAnyH_done (by kernel_rfl) ?_ _
            obtain ⟨jn, cHa, cHb, hct, hpa, hpb, iam, ibm⟩ := HJ.out
            have d16 := qwt2.1
            have d19 := qwt2.2.1
            have HT2 := qwt2.2.2
            have e1 := cell_stays s1 HT2.out
            have e2 := cell_stays s2 HT2.out
            have jn2 := jn wt2 HT2.out
            clear jn ct1 ct2 sl1 sl2 qd qwt1 qwt2 hHeld q0 cm16 cm19 s1 s2
            go_upto_region 31 with (go_at_call 18; refine jn2.mono ?_; rintro e w5 ⟨x, px, rfl, hpx, hxb, hxl, hxf, ix, b5⟩; have H5 := hide (And.intro hpx (And.intro hxb (And.intro hxl (And.intro hxf (And.intro ix b5))))); have d16 := cell_stays d16 b5; have d19 := cell_stays d19 b5; have e1 := cell_stays e1 b5; have e2 := cell_stays e2 b5; clear hpx hxb hxl hxf ix b5; dsimp only)
            obtain ⟨hpx, hxb, hxl, hxf, ix, b5⟩ := H5.out
            obtain ⟨w6, hw6⟩ : ∃ w6, w6 = w5.alloc (.cells #[.pointer px] 26) := ⟨_, rfl⟩
            have b6 : Below w5.heap.size w5 w6 := by rw [hw6]; exact (Below.refl _ w5).alloc (Nat.le_refl _) _
            have d23 : w6.cell? ⟨w5.heap.size, 0, none⟩ = some (.pointer px) := by rw [hw6]; exact cell_new w5 _ 26
            have d16 := cell_stays d16 b6
            have d19 := cell_stays d19 b6
            have e1 := cell_stays e1 b6
            have e2 := cell_stays e2 b6
            rw [← hw6]
            have bm6 : Below wm.heap.size wm w6 := (HT2.out.trans (b5.mono HT2.out.size)).trans (b6.mono (HT2.out.trans (b5.mono HT2.out.size)).size)
            have HM6 := hide bm6
            have cHa := fun W (hW : Below w6.heap.size w6 W) => cHa W (bm6.trans (hW.mono bm6.size))
            have cHb := fun W (hW : Below w6.heap.size w6 W) => cHb W (bm6.trans (hW.mono bm6.size))
            have ix6 := In.below b6 ix
            have cL : ∀ W, Below w6.heap.size w6 W → Calls Try.prog 19 #[.agg #[.pointer px]] W fun e w' => e = .returned (.int .i64 (x.n : Nat)) ∧ Below W.heap.size W w' := fun W hW => by
              have := mLen_any x W (In.below hW ix6)
              rw [show mv x = .agg #[.pointer px] from by unfold mv; rw [hpx]] at this
              exact this
            have hins : (ins ky vl t.list).length ≤ t.list.length + 1 := by
              have := pos_le ky t.list
              unfold ins
              simp only [List.length_append, List.length_take, List.length_cons, List.length_drop]
              split <;> omega
            have hxn : x.n ≤ L8 + 1 := by rw [← T.n_eq, hxl, HL8.out]; exact hins
            have cSa : ∀ W, Below w6.heap.size w6 W → Calls Try.prog 20 #[.agg #[.pointer px], .agg #[.pointer pa]] W fun e w' => e = .returned (.int .i64 (sharedIn ta x : Nat)) ∧ Below W.heap.size W w' := fun W hW => by
              have := shared_any x ta W (In.below hW ix6) (In.below (bm6.trans (hW.mono bm6.size)) iam) (by omega)
              rw [show mv x = .agg #[.pointer px] from by unfold mv; rw [hpx], show mv ta = .agg #[.pointer pa] from by unfold mv; rw [hpa]] at this
              exact this
            have cSb : ∀ W, Below w6.heap.size w6 W → Calls Try.prog 20 #[.agg #[.pointer px], .agg #[.pointer pb]] W fun e w' => e = .returned (.int .i64 (sharedIn tb x : Nat)) ∧ Below W.heap.size W w' := fun W hW => by
              have := shared_any x tb W (In.below hW ix6) (In.below (bm6.trans (hW.mono bm6.size)) ibm) (by omega)
              rw [show mv x = .agg #[.pointer px] from by unfold mv; rw [hpx], show mv tb = .agg #[.pointer pb] from by unfold mv; rw [hpb]] at this
              exact this
            have hsa := shared_le ta x
            have hsb := shared_le tb x
            have HX6 := hide (And.intro hpx (And.intro hxb (And.intro hxl (And.intro hxn (And.intro ix6 bm6)))))
            have H5s : Hid (wt2.heap.size ≤ w5.heap.size) := hide b5.size
            have hins0 : (ins ky vl t.list).length ≤ i + 1 := by have := HL8.out; have := T.n_eq t; omega
            have q6 : w6.cell? ⟨w5.heap.size, 0, none⟩ = some (.pointer px) ∧ w6.cell? ⟨w1.heap.size, 0, none⟩ = some (.pointer pa) ∧ w6.cell? ⟨w1.heap.size + 1, 0, none⟩ = some (.pointer pb) ∧ Hid (Below w6.heap.size w6 w6) := ⟨d23, d16, d19, hide (Below.refl _ _)⟩
            clear hpx hxb hxl ix b5 hw6 b6 bm6 ix6 hct hpa hpb iam ibm jn2 H5 d16 d19 d23 HJ hins
            generalize ta.h = HA at *
            generalize tb.h = HB at *
            generalize x.n = XN at *
            generalize sharedIn ta x = SA at *
            generalize sharedIn tb x = SB at *
            have wd : IntKind.i64.wrap ((HA : Int) - (HB : Int)) = (HA : Int) - (HB : Int) := by rw [IntKind.wrap_i64]; omega
            have wd2 : wrap64 ((HA : Int) - (HB : Int)) = (HA : Int) - (HB : Int) := by unfold wrap64; omega
            go_upto_region 31 with (fail)
            have qd : w6.drew.cell? ⟨w5.heap.size, 0, none⟩ = some (.pointer px) ∧ w6.drew.cell? ⟨w1.heap.size, 0, none⟩ = some (.pointer pa) ∧ w6.drew.cell? ⟨w1.heap.size + 1, 0, none⟩ = some (.pointer pb) ∧ Hid (Below w6.heap.size w6 w6.drew) := ⟨q6.1, q6.2.1, q6.2.2.1, hide (q6.2.2.2.out.trans ((drew_below w6).mono q6.2.2.2.out.size))⟩
            refine wp_region_held_drew (S := (fun w' => w'.cell? ⟨w5.heap.size, 0, none⟩ = some (.pointer px) ∧ w'.cell? ⟨w1.heap.size, 0, none⟩ = some (.pointer pa) ∧ w'.cell? ⟨w1.heap.size + 1, 0, none⟩ = some (.pointer pb) ∧ Hid (Below w6.heap.size w6 w'))) (by kernel_rfl) qd (fun hHeld => ?_)
            try dsimp only at hHeld
            refine take_op (i := 0) (d := 185) (OP := Op.load 26 (Operand.tmp 16)) (T := 26) (v := ?vzz113) rfl rfl rfl rfl (by kernel_rfl) (by kernel_rfl) (by kernel_rfl) (fun _ _ _ h => h) (by rfl) ?hzz113 hHeld ?rzz113
            case hzz113 => (intro w' hSw; (try dsimp only at hSw); go_simp <;> with_reducible rfl)
            try simp only [Act.put, List.setIfInBounds_toArray, List.set_cons_zero, List.set_cons_succ]
            refine take_op (i := 2) (d := 187) (OP := Op.load 26 (Operand.tmp 19)) (T := 26) (v := ?vzz114) rfl rfl rfl rfl (by kernel_rfl) (by kernel_rfl) (by kernel_rfl) (fun _ _ _ h => h) (by rfl) ?hzz114 hHeld ?rzz114
            case hzz114 => (intro w' hSw; (try dsimp only at hSw); go_simp <;> with_reducible rfl)
            try simp only [Act.put, List.setIfInBounds_toArray, List.set_cons_zero, List.set_cons_succ]
            refine call_op (i := 1) (d := 186) (OP := Op.call { callee := Callee.value (Operand.func 12), args := #[Operand.tmp 185], argTypes := #[26] }) (T := 3) (f := 12) (args := #[.agg #[.pointer pa]]) rfl rfl rfl rfl (by kernel_rfl) (by rfl) (by go_simp) ?_
            refine (cHa _ qd.2.2.2.out).mono ?_
            rintro e w7 ⟨rfl, bw7⟩
            have qw7 : w7.cell? ⟨w5.heap.size, 0, none⟩ = some (.pointer px) ∧ w7.cell? ⟨w1.heap.size, 0, none⟩ = some (.pointer pa) ∧ w7.cell? ⟨w1.heap.size + 1, 0, none⟩ = some (.pointer pb) ∧ Hid (Below w6.heap.size w6 w7) := ⟨cell_stays qd.1 bw7, cell_stays qd.2.1 bw7, cell_stays qd.2.2.1 bw7, hide (qd.2.2.2.out.trans (bw7.mono qd.2.2.2.out.size))⟩
            refine ⟨_, rfl, qw7, ?_⟩
            replace hHeld := qw7
            try simp only [Act.put, List.setIfInBounds_toArray, List.set_cons_zero, List.set_cons_succ]
            refine call_op (i := 3) (d := 188) (OP := Op.call { callee := Callee.value (Operand.func 12), args := #[Operand.tmp 187], argTypes := #[26] }) (T := 3) (f := 12) (args := #[.agg #[.pointer pb]]) rfl rfl rfl rfl (by kernel_rfl) (by rfl) (by go_simp) ?_
            refine (cHb _ qw7.2.2.2.out).mono ?_
            rintro e w8 ⟨rfl, bw8⟩
            have qw8 : w8.cell? ⟨w5.heap.size, 0, none⟩ = some (.pointer px) ∧ w8.cell? ⟨w1.heap.size, 0, none⟩ = some (.pointer pa) ∧ w8.cell? ⟨w1.heap.size + 1, 0, none⟩ = some (.pointer pb) ∧ Hid (Below w6.heap.size w6 w8) := ⟨cell_stays qw7.1 bw8, cell_stays qw7.2.1 bw8, cell_stays qw7.2.2.1 bw8, hide (qw7.2.2.2.out.trans (bw8.mono qw7.2.2.2.out.size))⟩
            refine ⟨_, rfl, qw8, ?_⟩
            replace hHeld := qw8
            try simp only [Act.put, List.setIfInBounds_toArray, List.set_cons_zero, List.set_cons_succ]
            refine take_op (i := 4) (d := 189) (OP := Op.binOp BinOp.sub 3 (Operand.tmp 186) (Operand.tmp 188) 3) (T := 3) (v := ?vzz115) rfl rfl rfl rfl (by kernel_rfl) (by kernel_rfl) (by kernel_rfl) (fun _ _ _ h => h) (by rfl) ?hzz115 hHeld ?rzz115
            case hzz115 => (intro w' hSw; (try dsimp only at hSw); go_simp <;> with_reducible rfl)
            try simp only [Act.put, List.setIfInBounds_toArray, List.set_cons_zero, List.set_cons_succ]
            refine take_op (i := 5) (d := 25) (OP := Op.assign (Operand.tmp 189)) (T := 3) (v := ?vzz116) rfl rfl rfl rfl (by kernel_rfl) (by kernel_rfl) (by kernel_rfl) (fun _ _ _ h => h) (by rfl) ?hzz116 hHeld ?rzz116
            case hzz116 => (intro w' hSw; (try dsimp only at hSw); go_simp <;> with_reducible rfl)
            try simp only [Act.put, List.setIfInBounds_toArray, List.set_cons_zero, List.set_cons_succ]
            refine wpAnyH_done (by kernel_rfl) ?_ _
            obtain ⟨D, hD⟩ : ∃ D : Int, D = (HA : Int) - (HB : Int) := ⟨_, rfl⟩
            rw [← hD] at hxf ⊢
            have hD1 : -100 ≤ D ∧ D ≤ 100 := by omega
            clear hD wd wd2 cHa cHb
            obtain ⟨M4, hM4⟩ : ∃ M4 : Int, M4 = max D (-D) := ⟨_, rfl⟩
            have hM1 : 0 ≤ M4 ∧ M4 ≤ 100 := by omega
            rw [← hM4] at hxf
            have wn : IntKind.i64.wrap (-D) = -D := by rw [IntKind.wrap_i64]; omega
            have wn2 : wrap64 (-D) = -D := by unfold wrap64; omega
            have wa1 : IntKind.i64.wrap ((XN : Int) - (SA : Int)) = (XN : Int) - (SA : Int) := by rw [IntKind.wrap_i64]; omega
            have wa2 : wrap64 ((XN : Int) - (SA : Int)) = (XN : Int) - (SA : Int) := by unfold wrap64; omega
            have wb1 : IntKind.i64.wrap ((XN : Int) - (SA : Int) - (SB : Int)) = (XN : Int) - (SA : Int) - (SB : Int) := by rw [IntKind.wrap_i64]; omega
            have wb2 : wrap64 ((XN : Int) - (SA : Int) - (SB : Int)) = (XN : Int) - (SA : Int) - (SB : Int) := by unfold wrap64; omega
            have wm1 : max D (-D) = M4 := hM4.symm
            have wm2 : IntKind.i64.wrap (M4 + 4) = M4 + 4 := by rw [IntKind.wrap_i64]; omega
            have z9 : ¬ (M4 + 4 < (XN : Int) - (SA : Int) - (SB : Int)) := by omega
            have z10 : decide (M4 + 4 < (XN : Int) - (SA : Int) - (SB : Int)) = false := by simpa using z9
            clear hM4
            go_upto_region 32 with (fail)
            have qd : w8.drew.cell? ⟨w5.heap.size, 0, none⟩ = some (.pointer px) ∧ w8.drew.cell? ⟨w1.heap.size, 0, none⟩ = some (.pointer pa) ∧ w8.drew.cell? ⟨w1.heap.size + 1, 0, none⟩ = some (.pointer pb) ∧ Hid (Below w6.heap.size w6 w8.drew) := ⟨qw8.1, qw8.2.1, qw8.2.2.1, hide (qw8.2.2.2.out.trans ((drew_below w8).mono qw8.2.2.2.out.size))⟩
            refine wp_region_held_drew (S := (fun w' => w'.cell? ⟨w5.heap.size, 0, none⟩ = some (.pointer px) ∧ w'.cell? ⟨w1.heap.size, 0, none⟩ = some (.pointer pa) ∧ w'.cell? ⟨w1.heap.size + 1, 0, none⟩ = some (.pointer pb) ∧ Hid (Below w6.heap.size w6 w'))) (by kernel_rfl) qd (fun hHeld => ?_)
            try dsimp only at hHeld
            refine take_op (i := 0) (d := 190) (OP := Op.move (Operand.tmp 24)) (T := 46) (v := ?vzz117) rfl rfl rfl rfl (by kernel_rfl) (by kernel_rfl) (by kernel_rfl) (fun _ _ _ h => h) (by rfl) ?hzz117 hHeld ?rzz117
            case hzz117 => (intro w' hSw; (try dsimp only at hSw); go_simp <;> with_reducible rfl)
            try simp only [Act.put, List.setIfInBounds_toArray, List.set_cons_zero, List.set_cons_succ]
            refine take_op (i := 1) (d := 191) (OP := Op.binOp BinOp.neq 46 (Operand.tmp 190) (Operand.const (Value.int IntKind.i64 0)) 46) (T := 4) (v := ?vzz118) rfl rfl rfl rfl (by kernel_rfl) (by kernel_rfl) (by kernel_rfl) (fun _ _ _ h => h) (by rfl) ?hzz118 hHeld ?rzz118
            case hzz118 => (intro w' hSw; (try dsimp only at hSw); go_simp <;> with_reducible rfl)
            try simp only [Act.put, List.setIfInBounds_toArray, List.set_cons_zero, List.set_cons_succ]
            refine take_op (i := 2) (d := 192) (OP := Op.move (Operand.tmp 191)) (T := 4) (v := ?vzz119) rfl rfl rfl rfl (by kernel_rfl) (by kernel_rfl) (by kernel_rfl) (fun _ _ _ h => h) (by rfl) ?hzz119 hHeld ?rzz119
            case hzz119 => (intro w' hSw; (try dsimp only at hSw); go_simp <;> with_reducible rfl)
            try simp only [Act.put, List.setIfInBounds_toArray, List.set_cons_zero, List.set_cons_succ]
            refine take_op (i := 3) (d := 193) (OP := Op.load 26 (Operand.tmp 23)) (T := 26) (v := ?vzz120) rfl rfl rfl rfl (by kernel_rfl) (by kernel_rfl) (by kernel_rfl) (fun _ _ _ h => h) (by rfl) ?hzz120 hHeld ?rzz120
            case hzz120 => (intro w' hSw; (try dsimp only at hSw); go_simp <;> with_reducible rfl)
            try simp only [Act.put, List.setIfInBounds_toArray, List.set_cons_zero, List.set_cons_succ]
            refine take_op (i := 5) (d := 195) (OP := Op.load 26 (Operand.tmp 23)) (T := 26) (v := ?vzz121) rfl rfl rfl rfl (by kernel_rfl) (by kernel_rfl) (by kernel_rfl) (fun _ _ _ h => h) (by rfl) ?hzz121 hHeld ?rzz121
            case hzz121 => (intro w' hSw; (try dsimp only at hSw); go_simp <;> with_reducible rfl)
            try simp only [Act.put, List.setIfInBounds_toArray, List.set_cons_zero, List.set_cons_succ]
            refine take_op (i := 6) (d := 196) (OP := Op.load 26 (Operand.tmp 16)) (T := 26) (v := ?vzz122) rfl rfl rfl rfl (by kernel_rfl) (by kernel_rfl) (by kernel_rfl) (fun _ _ _ h => h) (by rfl) ?hzz122 hHeld ?rzz122
            case hzz122 => (intro w' hSw; (try dsimp only at hSw); go_simp <;> with_reducible rfl)
            try simp only [Act.put, List.setIfInBounds_toArray, List.set_cons_zero, List.set_cons_succ]
            refine take_op (i := 9) (d := 199) (OP := Op.load 26 (Operand.tmp 23)) (T := 26) (v := ?vzz123) rfl rfl rfl rfl (by kernel_rfl) (by kernel_rfl) (by kernel_rfl) (fun _ _ _ h => h) (by rfl) ?hzz123 hHeld ?rzz123
            case hzz123 => (intro w' hSw; (try dsimp only at hSw); go_simp <;> with_reducible rfl)
            try simp only [Act.put, List.setIfInBounds_toArray, List.set_cons_zero, List.set_cons_succ]
            refine take_op (i := 10) (d := 200) (OP := Op.load 26 (Operand.tmp 19)) (T := 26) (v := ?vzz124) rfl rfl rfl rfl (by kernel_rfl) (by kernel_rfl) (by kernel_rfl) (fun _ _ _ h => h) (by rfl) ?hzz124 hHeld ?rzz124
            case hzz124 => (intro w' hSw; (try dsimp only at hSw); go_simp <;> with_reducible rfl)
            try simp only [Act.put, List.setIfInBounds_toArray, List.set_cons_zero, List.set_cons_succ]
            refine take_op (i := 13) (d := 203) (OP := Op.move (Operand.tmp 25)) (T := 3) (v := ?vzz125) rfl rfl rfl rfl (by kernel_rfl) (by kernel_rfl) (by kernel_rfl) (fun _ _ _ h => h) (by rfl) ?hzz125 hHeld ?rzz125
            case hzz125 => (intro w' hSw; (try dsimp only at hSw); go_simp <;> with_reducible rfl)
            try simp only [Act.put, List.setIfInBounds_toArray, List.set_cons_zero, List.set_cons_succ]
            refine take_op (i := 14) (d := 204) (OP := Op.move (Operand.tmp 25)) (T := 3) (v := ?vzz126) rfl rfl rfl rfl (by kernel_rfl) (by kernel_rfl) (by kernel_rfl) (fun _ _ _ h => h) (by rfl) ?hzz126 hHeld ?rzz126
            case hzz126 => (intro w' hSw; (try dsimp only at hSw); go_simp <;> with_reducible rfl)
            try simp only [Act.put, List.setIfInBounds_toArray, List.set_cons_zero, List.set_cons_succ]
            refine take_op (i := 15) (d := 205) (OP := Op.unOp UnOp.neg 3 (Operand.tmp 204)) (T := 3) (v := ?vzz127) rfl rfl rfl rfl (by kernel_rfl) (by kernel_rfl) (by kernel_rfl) (fun _ _ _ h => h) (by rfl) ?hzz127 hHeld ?rzz127
            case hzz127 => (intro w' hSw; (try dsimp only at hSw); go_simp <;> with_reducible rfl)
            try simp only [Act.put, List.setIfInBounds_toArray, List.set_cons_zero, List.set_cons_succ]
            refine take_op (i := 16) (d := 206) (OP := Op.call { callee := Callee.builtin Builtin.max, args := #[Operand.tmp 203, Operand.tmp 205], argTypes := #[3, 3] }) (T := 3) (v := ?vzz128) rfl rfl rfl rfl (by kernel_rfl) (by kernel_rfl) (by kernel_rfl) (fun _ _ _ h => h) (by rfl) ?hzz128 hHeld ?rzz128
            case hzz128 => (intro w' hSw; (try dsimp only at hSw); go_simp <;> with_reducible rfl)
            try simp only [Act.put, List.setIfInBounds_toArray, List.set_cons_zero, List.set_cons_succ]
            refine take_op (i := 17) (d := 207) (OP := Op.binOp BinOp.add 3 (Operand.tmp 206) (Operand.const (Value.int IntKind.i64 4)) 3) (T := 3) (v := ?vzz129) rfl rfl rfl rfl (by kernel_rfl) (by kernel_rfl) (by kernel_rfl) (fun _ _ _ h => h) (by rfl) ?hzz129 hHeld ?rzz129
            case hzz129 => (intro w' hSw; (try dsimp only at hSw); go_simp <;> with_reducible rfl)
            try simp only [Act.put, List.setIfInBounds_toArray, List.set_cons_zero, List.set_cons_succ]
            refine call_op (i := 4) (d := 194) (OP := Op.call { callee := Callee.value (Operand.func 19), args := #[Operand.tmp 193], argTypes := #[26] }) (T := 3) (f := 19) (args := #[.agg #[.pointer px]]) rfl rfl rfl rfl (by kernel_rfl) (by rfl) (by go_simp) ?_
            refine (cL _ qd.2.2.2.out).mono ?_
            rintro e y1 ⟨rfl, by1⟩
            have qy1 : y1.cell? ⟨w5.heap.size, 0, none⟩ = some (.pointer px) ∧ y1.cell? ⟨w1.heap.size, 0, none⟩ = some (.pointer pa) ∧ y1.cell? ⟨w1.heap.size + 1, 0, none⟩ = some (.pointer pb) ∧ Hid (Below w6.heap.size w6 y1) := ⟨cell_stays qd.1 by1, cell_stays qd.2.1 by1, cell_stays qd.2.2.1 by1, hide (qd.2.2.2.out.trans (by1.mono qd.2.2.2.out.size))⟩
            refine ⟨_, rfl, qy1, ?_⟩
            replace hHeld := qy1
            try simp only [Act.put, List.setIfInBounds_toArray, List.set_cons_zero, List.set_cons_succ]
            refine call_op (i := 7) (d := 197) (OP := Op.call { callee := Callee.value (Operand.func 20), args := #[Operand.tmp 195, Operand.tmp 196], argTypes := #[26, 26] }) (T := 3) (f := 20) (args := #[.agg #[.pointer px], .agg #[.pointer pa]]) rfl rfl rfl rfl (by kernel_rfl) (by rfl) (by go_simp) ?_
            refine (cSa _ qy1.2.2.2.out).mono ?_
            rintro e y2 ⟨rfl, by2⟩
            have qy2 : y2.cell? ⟨w5.heap.size, 0, none⟩ = some (.pointer px) ∧ y2.cell? ⟨w1.heap.size, 0, none⟩ = some (.pointer pa) ∧ y2.cell? ⟨w1.heap.size + 1, 0, none⟩ = some (.pointer pb) ∧ Hid (Below w6.heap.size w6 y2) := ⟨cell_stays qy1.1 by2, cell_stays qy1.2.1 by2, cell_stays qy1.2.2.1 by2, hide (qy1.2.2.2.out.trans (by2.mono qy1.2.2.2.out.size))⟩
            refine ⟨_, rfl, qy2, ?_⟩
            replace hHeld := qy2
            try simp only [Act.put, List.setIfInBounds_toArray, List.set_cons_zero, List.set_cons_succ]
            refine take_op (i := 8) (d := 198) (OP := Op.binOp BinOp.sub 3 (Operand.tmp 194) (Operand.tmp 197) 3) (T := 3) (v := ?vzz130) rfl rfl rfl rfl (by kernel_rfl) (by kernel_rfl) (by kernel_rfl) (fun _ _ _ h => h) (by rfl) ?hzz130 hHeld ?rzz130
            case hzz130 => (intro w' hSw; (try dsimp only at hSw); go_simp <;> with_reducible rfl)
            try simp only [Act.put, List.setIfInBounds_toArray, List.set_cons_zero, List.set_cons_succ]
            refine call_op (i := 11) (d := 201) (OP := Op.call { callee := Callee.value (Operand.func 20), args := #[Operand.tmp 199, Operand.tmp 200], argTypes := #[26, 26] }) (T := 3) (f := 20) (args := #[.agg #[.pointer px], .agg #[.pointer pb]]) rfl rfl rfl rfl (by kernel_rfl) (by rfl) (by go_simp) ?_
            refine (cSb _ qy2.2.2.2.out).mono ?_
            rintro e y3 ⟨rfl, by3⟩
            have qy3 : y3.cell? ⟨w5.heap.size, 0, none⟩ = some (.pointer px) ∧ y3.cell? ⟨w1.heap.size, 0, none⟩ = some (.pointer pa) ∧ y3.cell? ⟨w1.heap.size + 1, 0, none⟩ = some (.pointer pb) ∧ Hid (Below w6.heap.size w6 y3) := ⟨cell_stays qy2.1 by3, cell_stays qy2.2.1 by3, cell_stays qy2.2.2.1 by3, hide (qy2.2.2.2.out.trans (by3.mono qy2.2.2.2.out.size))⟩
            refine ⟨_, rfl, qy3, ?_⟩
            replace hHeld := qy3
            try simp only [Act.put, List.setIfInBounds_toArray, List.set_cons_zero, List.set_cons_succ]
            refine take_op (i := 12) (d := 202) (OP := Op.binOp BinOp.sub 3 (Operand.tmp 198) (Operand.tmp 201) 3) (T := 3) (v := ?vzz131) rfl rfl rfl rfl (by kernel_rfl) (by kernel_rfl) (by kernel_rfl) (fun _ _ _ h => h) (by rfl) ?hzz131 hHeld ?rzz131
            case hzz131 => (intro w' hSw; (try dsimp only at hSw); go_simp <;> with_reducible rfl)
            try simp only [Act.put, List.setIfInBounds_toArray, List.set_cons_zero, List.set_cons_succ]
            refine take_op (i := 18) (d := 208) (OP := Op.binOp BinOp.gtr 3 (Operand.tmp 202) (Operand.tmp 207) 3) (T := 4) (v := ?vzz132) rfl rfl rfl rfl (by kernel_rfl) (by kernel_rfl) (by kernel_rfl) (fun _ _ _ h => h) (by rfl) ?hzz132 hHeld ?rzz132
            case hzz132 => (intro w' hSw; (try dsimp only at hSw); go_simp <;> with_reducible rfl)
            try simp only [Act.put, List.setIfInBounds_toArray, List.set_cons_zero, List.set_cons_succ]
            refine take_op (i := 19) (d := 209) (OP := Op.pick (Operand.tmp 192) (Operand.const (Value.bool true)) (Operand.tmp 208)) (T := 4) (v := ?vzz133) rfl rfl rfl rfl (by kernel_rfl) (by kernel_rfl) (by kernel_rfl) (fun _ _ _ h => h) (by rfl) ?hzz133 hHeld ?rzz133
            case hzz133 => (intro w' hSw; (try dsimp only at hSw); go_simp <;> with_reducible rfl)
            try simp only [Act.put, List.setIfInBounds_toArray, List.set_cons_zero, List.set_cons_succ]
            refine wpAnyH_done (by kernel_rfl) ?_ _
            have B3 := qy3.2.2.2
            have d23 := qy3.1
            have e1 := cell_stays e1 B3.out
            have e2 := cell_stays e2 B3.out
            obtain ⟨hpx, hxb, hxl, hxn', ix6, bm6⟩ := HX6.out
            have bk3 : Below wk.heap.size wk y3 := (HBKM.out.1.trans (bm6.mono HBKM.out.1.size)).trans (B3.out.mono (HBKM.out.1.trans (bm6.mono HBKM.out.1.size)).size)
            have hbw3 : Below w.heap.size w y3 := (HL.out.below.trans (HBK.out.1.mono HL.out.below.size)).trans (bk3.mono (HL.out.below.trans (HBK.out.1.mono HL.out.below.size)).size)
            have lp := HLP.out
            have q9 : y3.cell? ⟨wr.heap.size, 1, none⟩ = some (.string ky) ∧ y3.cell? ⟨wr.heap.size, 2, none⟩ = some (.int .i64 vl) ∧ y3.cell? ⟨w5.heap.size, 0, none⟩ = some (.pointer px) ∧ Hid (Below w.heap.size w y3) := ⟨e1, e2, d23, hide hbw3⟩
            have hw5 : wk.heap.size ≤ w5.heap.size := Nat.le_trans (Nat.le_trans HBKM.out.1.size HT2.out.size) H5s.out
            clear cL cSa cSb z9 z10 wn wn2 wa1 wa2 wb1 wb2 wm1 wm2 qd qw7 qw8 qy1 qy2 qy3 hHeld q6 hxf hM1 hD1
            go_upto_region 34 with (fail)
            have qd : y3.drew.cell? ⟨wr.heap.size, 1, none⟩ = some (.string ky) ∧ y3.drew.cell? ⟨wr.heap.size, 2, none⟩ = some (.int .i64 vl) ∧ y3.drew.cell? ⟨w5.heap.size, 0, none⟩ = some (.pointer px) ∧ Hid (Below w.heap.size w y3.drew) := ⟨q9.1, q9.2.1, q9.2.2.1, hide (q9.2.2.2.out.trans ((drew_below y3).mono q9.2.2.2.out.size))⟩
            refine wp_region_held_drew (S := (fun w' => w'.cell? ⟨wr.heap.size, 1, none⟩ = some (.string ky) ∧ w'.cell? ⟨wr.heap.size, 2, none⟩ = some (.int .i64 vl) ∧ w'.cell? ⟨w5.heap.size, 0, none⟩ = some (.pointer px) ∧ Hid (Below w.heap.size w w'))) (by kernel_rfl) qd (fun hHeld => ?_)
            try dsimp only at hHeld
            refine take_op (i := 0) (d := 210) (OP := Op.load 26 (Operand.tmp 23)) (T := 26) (v := ?vzz134) rfl rfl rfl rfl (by kernel_rfl) (by kernel_rfl) (by kernel_rfl) (fun _ _ _ h => h) (by rfl) ?hzz134 hHeld ?rzz134
            case hzz134 => (intro w' hSw; (try dsimp only at hSw); go_simp <;> with_reducible rfl)
            try simp only [Act.put, List.setIfInBounds_toArray, List.set_cons_zero, List.set_cons_succ]
            refine take_op (i := 1) (d := 211) (OP := Op.move (Operand.tmp 8)) (T := 27) (v := ?vzz135) rfl rfl rfl rfl (by kernel_rfl) (by kernel_rfl) (by kernel_rfl) (fun _ _ _ h => h) (by rfl) ?hzz135 hHeld ?rzz135
            case hzz135 => (intro w' hSw; (try dsimp only at hSw); go_simp <;> with_reducible rfl)
            try simp only [Act.put, List.setIfInBounds_toArray, List.set_cons_zero, List.set_cons_succ]
            refine take_op (i := 2) (d := 212) (OP := Op.fieldAddr 31 (Operand.tmp 12) 1) (T := 0) (v := ?vzz136) rfl rfl rfl rfl (by kernel_rfl) (by kernel_rfl) (by kernel_rfl) (fun _ _ _ h => h) (by rfl) ?hzz136 hHeld ?rzz136
            case hzz136 => (intro w' hSw; (try dsimp only at hSw); go_simp <;> with_reducible rfl)
            try simp only [Act.put, List.setIfInBounds_toArray, List.set_cons_zero, List.set_cons_succ]
            refine take_op (i := 3) (d := 213) (OP := Op.load 9 (Operand.tmp 212)) (T := 9) (v := ?vzz137) rfl rfl rfl rfl (by kernel_rfl) (by kernel_rfl) (by kernel_rfl) (fun _ _ _ h => h) (by rfl) ?hzz137 hHeld ?rzz137
            case hzz137 => (intro w' hSw; (try dsimp only at hSw); go_simp <;> with_reducible rfl)
            try simp only [Act.put, List.setIfInBounds_toArray, List.set_cons_zero, List.set_cons_succ]
            refine take_op (i := 4) (d := 214) (OP := Op.fieldAddr 31 (Operand.tmp 12) 2) (T := 0) (v := ?vzz138) rfl rfl rfl rfl (by kernel_rfl) (by kernel_rfl) (by kernel_rfl) (fun _ _ _ h => h) (by rfl) ?hzz138 hHeld ?rzz138
            case hzz138 => (intro w' hSw; (try dsimp only at hSw); go_simp <;> with_reducible rfl)
            try simp only [Act.put, List.setIfInBounds_toArray, List.set_cons_zero, List.set_cons_succ]
            refine take_op (i := 5) (d := 215) (OP := Op.load 3 (Operand.tmp 214)) (T := 3) (v := ?vzz139) rfl rfl rfl rfl (by kernel_rfl) (by kernel_rfl) (by kernel_rfl) (fun _ _ _ h => h) (by rfl) ?hzz139 hHeld ?rzz139
            case hzz139 => (intro w' hSw; (try dsimp only at hSw); go_simp <;> with_reducible rfl)
            try simp only [Act.put, List.setIfInBounds_toArray, List.set_cons_zero, List.set_cons_succ]
            refine call_op (i := 6) (d := 216) (OP := Op.call { callee := Callee.value (Operand.func 10), args := #[Operand.tmp 211, Operand.tmp 213, Operand.tmp 215], argTypes := #[27, 9, 3] }) (T := 27) (f := 10) (args := #[.slice ao L8 cap, .string ky, .int .i64 vl]) rfl rfl rfl rfl (by kernel_rfl) (by rfl) (by go_simp) ?_
            refine (lp _ (bk3.trans ((drew_below y3).mono bk3.size))).mono ?_
            rintro e y4 ⟨sv', rfl, e4, b4⟩
            have b34 : Below y3.heap.size y3 y4 := (drew_below y3).trans (b4.mono (drew_below y3).size)
            have bk4 : Below wk.heap.size wk y4 := bk3.trans (b34.mono bk3.size)
            have qy4 : y4.cell? ⟨wr.heap.size, 1, none⟩ = some (.string ky) ∧ y4.cell? ⟨wr.heap.size, 2, none⟩ = some (.int .i64 vl) ∧ y4.cell? ⟨w5.heap.size, 0, none⟩ = some (.pointer px) ∧ Hid (Below w.heap.size w y4) := ⟨cell_stays qd.1 b4, cell_stays qd.2.1 b4, cell_stays qd.2.2.1 b4, hide (qd.2.2.2.out.trans (b4.mono qd.2.2.2.out.size))⟩
            refine ⟨_, rfl, qy4, ?_⟩
            replace hHeld := qy4
            try simp only [Act.put, List.setIfInBounds_toArray, List.set_cons_zero, List.set_cons_succ]
            have hlt7 := HBK.out.2.2
            have h2 : y4.heap[w.heap.size]? = some (.cells #[.pointer a] 26 (0, 0)) := (bk4.block _ (Nat.lt_of_lt_of_le hlt7 HBK.out.1.size)).trans hk7.out
            have c2 : y4.cell? ⟨w.heap.size, 0, none⟩ = some (.pointer a) := (cell_of_row _ _ 0 _ 26 (0, 0) h2).trans rfl
            have f2 : y4.frozen? ⟨w.heap.size, 0, none⟩ = false := frozen_of_row _ _ 0 _ 26 h2
            have ix4 : In y4 x := In.below b34 (In.below B3.out ix6)
            obtain ⟨hI, o3, o2⟩ := HL.out.next (m := i + 1) (HBK.out.1.trans (bk4.mono HBK.out.1.size)) ix4 hxb (by rw [hxl]; exact srt_insP HL.out.srt ky vl) (by rw [hxl]; exact e4.1) e4.2 (by rw [← T.n_eq, hxl]; have := hins0; omega) h2 hpx
            have hsz5 : wr.heap.size ≤ w5.heap.size := Nat.le_trans HBK.out.1.size hw5
            have q10 : (y4.setCell ⟨w.heap.size, 0, none⟩ (.pointer px)).cell? ⟨wr.heap.size, 1, none⟩ = some (.string ky) ∧ (y4.setCell ⟨w.heap.size, 0, none⟩ (.pointer px)).cell? ⟨wr.heap.size, 2, none⟩ = some (.int .i64 vl) ∧ (y4.setCell ⟨w.heap.size, 0, none⟩ (.pointer px)).cell? ⟨w5.heap.size, 0, none⟩ = some (.pointer px) ∧ Hid (Below w.heap.size w (y4.setCell ⟨w.heap.size, 0, none⟩ (.pointer px))) := ⟨o3.cell qy4.1 (by simp; omega), o3.cell qy4.2.1 (by simp; omega), o3.cell qy4.2.2.1 (by simp; omega), hide o2⟩
            have HI3 := hide hI
            obtain ⟨z3w, hz3⟩ : ∃ z3w, z3w = y4.setCell ⟨w.heap.size, 0, none⟩ (.pointer px) := ⟨_, rfl⟩
            rw [← hz3] at hI HI3 q10
            refine skip_op (i := 7) (OP := Op.store 26 (Operand.tmp 7) (Operand.tmp 210)) (T := 0) (w' := z3w) rfl rfl rfl rfl (by kernel_rfl) (by rfl) (by rw [hz3]; go_simp) ⟨q10, ?_⟩
            try simp only [Act.put, List.setIfInBounds_toArray, List.set_cons_zero, List.set_cons_succ]
            replace hHeld := q10
            refine take_op (i := 8) (d := 8) (OP := Op.assign (Operand.tmp 216)) (T := 27) (v := ?vzz140) rfl rfl rfl rfl (by kernel_rfl) (by kernel_rfl) (by kernel_rfl) (fun _ _ _ h => h) (by rfl) ?hzz140 hHeld ?rzz140
            case hzz140 => (intro w' hSw; (try dsimp only at hSw); go_simp <;> with_reducible rfl)
            try simp only [Act.put, List.setIfInBounds_toArray, List.set_cons_zero, List.set_cons_succ]
            refine wpAnyH_done (by kernel_rfl) ?_ _
            clear hI o3 o2 q10 hHeld qy4 h2 c2 f2 ix4 e4 hz3
            go_wp2_with fail
            go_meet
            exact ⟨x, HI3⟩
        have e1 : (kd == 1) = false := by simpa using k1
        have e2 : (kd == 2) = false := by simpa using k2
        have e3 : (kd == 3) = false := by simpa using k3
        have HX : Hid (PlaysI w wk u8 (.slice a9 i c9) (.slice a10 i c10) t ts vs (i + 1) i) := by
          have h := HL.out
          have hb := HBK.out.1
          exact hide ⟨by rw [hk7.out, ha], In.below hb h.tree, h.bal, h.srt, h.list.below hb, h.ty.below hb, by have := h.few; omega, h.kept.below hb, h.len, h.below.trans (hb.mono h.below.size)⟩
        clear ca HL ha HBK hk7 HPG
        go_wp2_with fail
        go_meet
        exact ⟨t, HX⟩
      case rest =>
       as_aux_lemma =>
        obtain ⟨t', HX⟩ := hcut
        obtain ⟨b', hb'⟩ := t'.ptr_shape
        obtain ⟨a8, n8, c8, rfl⟩ : ∃ a8 n8 c8, u8 = .slice a8 n8 c8 := by obtain ⟨ao, cap, e, _⟩ := HX.out.list.ex; exact ⟨ao, _, cap, e⟩
        have cx : wc.cell? ⟨w.heap.size, 0, none⟩ = some (.pointer b') := by rw [cell_of_row _ _ 0 _ 26 (0, 0) HX.out.box, hb']; rfl
        have hg : Good wc t' := ⟨HX.out.tree, HX.out.bal, HX.out.srt, by have := HX.out.few; omega⟩
        have ct := tells_any t' (.slice a8 n8 c8) leave frm wc hg HX.out.list
        unfold mv at ct
        rw [hb'] at ct
        have HG := hide hg
        clear hg ck7 ck13 sk0 sk1 sk2 HBK hk7 ca cs0 cs1 cs2 HL
        go_upto_region 37 with (go_at_call 17; refine ct.mono ?_; rintro e w1 ⟨rfl, b1⟩; have c1 := cell_stays cx b1; replace b1 := hide b1; dsimp only)
        have hsz : w.heap.size + 1 ≤ w1.heap.size := Nat.lt_of_lt_of_le (Array.getElem?_eq_some_iff.1 HX.out.box).1 b1.out.size
        obtain ⟨v9', w2, v10', w4, r1, r2, K4, G4, E4, T4, B4⟩ := (HX.out.kept.below b1.out).step (HG.out.below b1.out) (HX.out.list.below b1.out) (HX.out.ty.below b1.out) hsz (by have := HX.out.len; omega)
        rw [hb'] at r1
        have hI : PlaysI w w4 (.slice a8 n8 c8) v9' v10' t' (ts ++ [t']) (vs ++ [.slice a8 n8 c8]) (i + 1) (i + 1) := by
          have h := HX.out
          refine ⟨?_, G4.tree, h.bal, h.srt, E4, T4, h.few, K4, by rw [List.length_append, h.len]; rfl, (h.below.trans (b1.out.mono h.below.size)).trans (B4.mono (by omega))⟩
          rw [B4.block _ (by omega), b1.out.block _ (Array.getElem?_eq_some_iff.1 h.box).1, h.box]
        obtain ⟨⟨a9', c9', rfl⟩, ⟨a10', c10', rfl⟩⟩ := hI.shapes
        have HI4 := hide hI
        clear hI K4 G4 E4 T4 B4 hsz ct
        go_wp2_with (first
          | (at_builtin; refine wpList_turn (OP := .call { callee := .builtin .append, args := #[.tmp 223, .tmp 225], argTypes := #[28, 28] }) (T := 28) rfl rfl rfl (exec_append rfl rfl r1) ?_)
          | (at_builtin; refine wpList_turn (OP := .call { callee := .builtin .append, args := #[.tmp 227, .tmp 229], argTypes := #[29, 29] }) (T := 29) rfl rfl rfl (exec_append rfl rfl r2) ?_))
        go_roundw
        case rel => exact ⟨i + 1, t', ts ++ [t'], vs ++ [.slice a8 n8 c8], a9', a10', c9', c10', by omega, by go_num, rfl, rfl, HI4⟩
        case measure => simp [intOf]; omega
    · as_aux_lemma =>
      have ei : i = N := by omega
      subst ei
      have z3 : decide ((i : Int) < (i : Int)) = false := by simp
      have HKP := hide HL.out.kept
      have HLB := hide HL.out.below
      have HLE := hide HL.out.len
      clear HL hiN
      go_wp2
      rename World => wx
      go_loopw [26] (fun v26 wr => ∃ j : Nat, j ≤ i ∧ v26 = .int .i64 j ∧ Hid (Below wx.heap.size wx wr)) (fun v26 _ => i - (intOf v26).toNat)
      case atStart => exact ⟨0, by omega, rfl, hide (Below.refl _ _)⟩
      case round =>
        obtain ⟨j, hj, rfl, HQ⟩ := hrel
        by_cases hji : j < i
        · have y1 : (j : Int) < (i : Int) := by omega
          obtain ⟨tj, htj⟩ : ∃ x, ts[j]? = some x := ⟨ts[j]'(by rw [HLE.out]; exact hji), List.getElem?_eq_getElem _⟩
          obtain ⟨sj, hsj⟩ : ∃ x, vs[j]? = some x := ⟨vs[j]'(by rw [HKP.out.len, HLE.out]; exact hji), List.getElem?_eq_getElem _⟩
          obtain ⟨g1, g2, _⟩ := HKP.out.each j tj sj htj hsj
          obtain ⟨b, hb⟩ := tj.ptr_shape
          obtain ⟨g9, e9⟩ : ∃ g9, a9 = some ⟨g9, 0, none⟩ := by
            rcases HKP.out.maps.2 with ⟨e, e0⟩ | ⟨g, cap, cur, e, _⟩
            · have := HLE.out; omega
            · simp only [Value.slice.injEq] at e; exact ⟨g, e.1⟩
          obtain ⟨g10, e10⟩ : ∃ g10, a10 = some ⟨g10, 0, none⟩ := by
            rcases HKP.out.lists.2 with ⟨e, e0⟩ | ⟨g, cap, cur, e, _⟩
            · have := HLE.out; have := HKP.out.len; omega
            · simp only [Value.slice.injEq] at e; exact ⟨g, e.1⟩
          subst e9 e10
          have d9 : wx.cell? ⟨g9, j, none⟩ = some (.pointer b) := by
            have := World.ownsRow.cells HKP.out.maps (g := g9) rfl j tj.ptr (by rw [List.getElem?_map, htj]; rfl)
            rw [add_lit, Nat.zero_add, hb] at this
            exact this
          have d10 : wx.cell? ⟨g10, j, none⟩ = some sj := by
            have := World.ownsRow.cells HKP.out.lists (g := g10) rfl j sj hsj
            rw [add_lit, Nat.zero_add] at this
            exact this
          have ct : ∀ W, Below wx.heap.size wx W → Calls Try.prog 17 #[.agg #[.pointer b], sj, .int .i64 leave, .string frm] W fun e w' => e = .returned (.bool true) ∧ Below W.heap.size W w' := fun W hW => by
            have := tells_any tj sj leave frm W (g1.below hW) (g2.below hW)
            unfold mv at this
            rw [hb] at this
            exact this
          have q0 : wr.cell? ⟨g9, j, none⟩ = some (.pointer b) ∧ wr.cell? ⟨g10, j, none⟩ = some sj ∧ Hid (Below wx.heap.size wx wr) := ⟨cell_stays d9 HQ.out, cell_stays d10 HQ.out, HQ⟩
          clear g1 g2 hb htj hsj d9 d10
          go_upto_region 41 with (fail)
          have qd : wr.drew.cell? ⟨g9, j, none⟩ = some (.pointer b) ∧ wr.drew.cell? ⟨g10, j, none⟩ = some (sj) ∧ Hid (Below wx.heap.size wx wr.drew) := ⟨q0.1, q0.2.1, hide (q0.2.2.out.trans ((drew_below wr).mono q0.2.2.out.size))⟩
          refine wp_region_held_drew (S := (fun w' => w'.cell? ⟨g9, j, none⟩ = some (.pointer b) ∧ w'.cell? ⟨g10, j, none⟩ = some (sj) ∧ Hid (Below wx.heap.size wx w'))) (by kernel_rfl) qd (fun hHeld => ?_)
          try dsimp only at hHeld
          refine take_op (i := 0) (d := 237) (OP := Op.move (Operand.tmp 9)) (T := 28) (v := ?vzz1) rfl rfl rfl rfl (by kernel_rfl) (by kernel_rfl) (by kernel_rfl) (fun _ _ _ h => h) (by rfl) ?hzz1 hHeld ?rzz1
          case hzz1 => (intro w' hSw; (try dsimp only at hSw); go_simp <;> with_reducible rfl)
          try simp only [Act.put, List.setIfInBounds_toArray, List.set_cons_zero, List.set_cons_succ]
          refine take_op (i := 1) (d := 238) (OP := Op.move (Operand.tmp 26)) (T := 3) (v := ?vzz2) rfl rfl rfl rfl (by kernel_rfl) (by kernel_rfl) (by kernel_rfl) (fun _ _ _ h => h) (by rfl) ?hzz2 hHeld ?rzz2
          case hzz2 => (intro w' hSw; (try dsimp only at hSw); go_simp <;> with_reducible rfl)
          try simp only [Act.put, List.setIfInBounds_toArray, List.set_cons_zero, List.set_cons_succ]
          refine take_op (i := 2) (d := 239) (OP := Op.indexAddr 28 (Operand.tmp 237) (Operand.tmp 238)) (T := 0) (v := ?vzz3) rfl rfl rfl rfl (by kernel_rfl) (by kernel_rfl) (by kernel_rfl) (fun _ _ _ h => h) (by rfl) ?hzz3 hHeld ?rzz3
          case hzz3 => (intro w' hSw; (try dsimp only at hSw); go_simp <;> with_reducible rfl)
          try simp only [Act.put, List.setIfInBounds_toArray, List.set_cons_zero, List.set_cons_succ]
          refine take_op (i := 3) (d := 240) (OP := Op.load 26 (Operand.tmp 239)) (T := 26) (v := ?vzz4) rfl rfl rfl rfl (by kernel_rfl) (by kernel_rfl) (by kernel_rfl) (fun _ _ _ h => h) (by rfl) ?hzz4 hHeld ?rzz4
          case hzz4 => (intro w' hSw; (try dsimp only at hSw); go_simp <;> with_reducible rfl)
          try simp only [Act.put, List.setIfInBounds_toArray, List.set_cons_zero, List.set_cons_succ]
          refine take_op (i := 4) (d := 241) (OP := Op.move (Operand.tmp 10)) (T := 29) (v := ?vzz5) rfl rfl rfl rfl (by kernel_rfl) (by kernel_rfl) (by kernel_rfl) (fun _ _ _ h => h) (by rfl) ?hzz5 hHeld ?rzz5
          case hzz5 => (intro w' hSw; (try dsimp only at hSw); go_simp <;> with_reducible rfl)
          try simp only [Act.put, List.setIfInBounds_toArray, List.set_cons_zero, List.set_cons_succ]
          refine take_op (i := 5) (d := 242) (OP := Op.move (Operand.tmp 26)) (T := 3) (v := ?vzz6) rfl rfl rfl rfl (by kernel_rfl) (by kernel_rfl) (by kernel_rfl) (fun _ _ _ h => h) (by rfl) ?hzz6 hHeld ?rzz6
          case hzz6 => (intro w' hSw; (try dsimp only at hSw); go_simp <;> with_reducible rfl)
          try simp only [Act.put, List.setIfInBounds_toArray, List.set_cons_zero, List.set_cons_succ]
          refine take_op (i := 6) (d := 243) (OP := Op.indexAddr 29 (Operand.tmp 241) (Operand.tmp 242)) (T := 0) (v := ?vzz7) rfl rfl rfl rfl (by kernel_rfl) (by kernel_rfl) (by kernel_rfl) (fun _ _ _ h => h) (by rfl) ?hzz7 hHeld ?rzz7
          case hzz7 => (intro w' hSw; (try dsimp only at hSw); go_simp <;> with_reducible rfl)
          try simp only [Act.put, List.setIfInBounds_toArray, List.set_cons_zero, List.set_cons_succ]
          refine take_op (i := 7) (d := 244) (OP := Op.load 27 (Operand.tmp 243)) (T := 27) (v := ?vzz8) rfl rfl rfl rfl (by kernel_rfl) (by kernel_rfl) (by kernel_rfl) (fun _ _ _ h => h) (by rfl) ?hzz8 hHeld ?rzz8
          case hzz8 => (intro w' hSw; (try dsimp only at hSw); go_simp <;> with_reducible rfl)
          try simp only [Act.put, List.setIfInBounds_toArray, List.set_cons_zero, List.set_cons_succ]
          refine take_op (i := 8) (d := 245) (OP := Op.move (Operand.tmp 1)) (T := 3) (v := ?vzz9) rfl rfl rfl rfl (by kernel_rfl) (by kernel_rfl) (by kernel_rfl) (fun _ _ _ h => h) (by rfl) ?hzz9 hHeld ?rzz9
          case hzz9 => (intro w' hSw; (try dsimp only at hSw); go_simp <;> with_reducible rfl)
          try simp only [Act.put, List.setIfInBounds_toArray, List.set_cons_zero, List.set_cons_succ]
          refine take_op (i := 9) (d := 246) (OP := Op.move (Operand.tmp 2)) (T := 9) (v := ?vzz10) rfl rfl rfl rfl (by kernel_rfl) (by kernel_rfl) (by kernel_rfl) (fun _ _ _ h => h) (by rfl) ?hzz10 hHeld ?rzz10
          case hzz10 => (intro w' hSw; (try dsimp only at hSw); go_simp <;> with_reducible rfl)
          try simp only [Act.put, List.setIfInBounds_toArray, List.set_cons_zero, List.set_cons_succ]
          refine call_op (i := 10) (d := 247) (OP := Op.call { callee := Callee.value (Operand.func 17), args := #[Operand.tmp 240, Operand.tmp 244, Operand.tmp 245, Operand.tmp 246], argTypes := #[26, 27, 3, 9] }) (T := 4) (f := 17) (args := #[.agg #[.pointer b], sj, .int .i64 leave, .string frm]) rfl rfl rfl rfl (by kernel_rfl) (by rfl) (by go_simp) ?_
          refine (ct _ qd.2.2.out).mono ?_
          rintro e w3 ⟨rfl, b3⟩
          have qw3 : w3.cell? ⟨g9, j, none⟩ = some (.pointer b) ∧ w3.cell? ⟨g10, j, none⟩ = some (sj) ∧ Hid (Below wx.heap.size wx w3) := ⟨cell_stays qd.1 b3, cell_stays qd.2.1 b3, hide (qd.2.2.out.trans (b3.mono qd.2.2.out.size))⟩
          refine ⟨_, rfl, qw3, ?_⟩
          replace hHeld := qw3
          try simp only [Act.put, List.setIfInBounds_toArray, List.set_cons_zero, List.set_cons_succ]
          refine take_op (i := 11) (d := 248) (OP := Op.unOp UnOp.not 4 (Operand.tmp 247)) (T := 4) (v := ?vzz11) rfl rfl rfl rfl (by kernel_rfl) (by kernel_rfl) (by kernel_rfl) (fun _ _ _ h => h) (by rfl) ?hzz11 hHeld ?rzz11
          case hzz11 => (intro w' hSw; (try dsimp only at hSw); go_simp <;> with_reducible rfl)
          try simp only [Act.put, List.setIfInBounds_toArray, List.set_cons_zero, List.set_cons_succ]
          refine wpAnyH_done (by kernel_rfl) ?_ _
          go_wp2
          go_roundw
          case rel => exact ⟨j + 1, by omega, by go_num, qw3.2.2⟩
          case measure => simp [intOf]; omega
        · have ej : j = i := by omega
          subst ej
          have ck := HK.out wr
          go_wp2_with (go_at_call 7; refine ck.mono ?_; rintro e w5 ⟨rfl, b5⟩; dsimp only)
          go_ret
          have hh := HLB.out.trans (HQ.out.mono HLB.out.size)
          exact ⟨rfl, hh.trans (b5.mono hh.size)⟩
end Go.Proofs.Ytleaaoknjflgoaa
