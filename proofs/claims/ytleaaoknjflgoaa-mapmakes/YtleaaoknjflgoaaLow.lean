/-
  MapLow: THE WALK.
-/
import Derived.Test.YtleaaoknjflgoaaKnownW
import Derived.Test.YtleaaoknjflgoaaTells
namespace Go.Proofs.Ytleaaoknjflgoaa
open Go.RowKit Go.Shelf
set_option linter.unusedSimpArgs false

/-- Entries are not in a block that holds one pointer. -/
theorem RnO.aside {w w' : World} {B : Nat} {x : Option Addr} {ao : Option Addr} {l : List Nm} (hw : w.heap[B]? = some (.cells #[.pointer x] 26 (0, 0))) (h : Only (fun j => j = B) w w') (hr : RnO w ao l) (hs : ∀ a, ao = some a → a.spot = none) : RnO w' ao l := ⟨hr.1, fun a ha j u hj => by
  have h1 := hr.2 a ha j u hj
  obtain ⟨b, off, s⟩ := a
  have := hs _ ha
  simp only at this
  subst this
  rw [add_lit] at h1 ⊢
  refine h.cell h1 ?_
  intro e
  simp only at e
  subst e
  rw [cell_of_row _ _ _ _ 26 (0, 0) hw] at h1
  have hu : u = .pointer x := by
    have := Array.mem_of_getElem? h1
    simpa using this
  have hm := List.mem_of_getElem? hj
  rw [hu] at hm
  simp [flatN, encN] at hm⟩
theorem Es.aside {w w' : World} {B : Nat} {x : Option Addr} {v : Value} {l : List Nm} (hw : w.heap[B]? = some (.cells #[.pointer x] 26 (0, 0))) (h : Only (fun j => j = B) w w') (he : Es w v l) : Es w' v l := by
  obtain ⟨ao, cap, e, hr, hc, hn, hs⟩ := he.ex
  exact ⟨ao, cap, e, hr.aside hw h hs, hc, hn, hs⟩
/-- What is written into the map's box. -/
theorem set_box {w w1 : World} {B : Nat} {x y : Option Addr} (hw : w1.heap[B]? = some (.cells #[.pointer x] 26 (0, 0))) (hB : w.heap.size ≤ B) (hb : Below w.heap.size w w1) : (w1.setCell ⟨B, 0, none⟩ (.pointer y)).heap[B]? = some (.cells #[.pointer y] 26 (0, 0)) ∧ Below w.heap.size w (w1.setCell ⟨B, 0, none⟩ (.pointer y)) ∧ Only (fun j => j = B) w1 (w1.setCell ⟨B, 0, none⟩ (.pointer y)) := by
  refine ⟨?_, hb.setCell (p := ⟨B, 0, none⟩) hB _, (Only.ofGrown (grown_setCell w1 ⟨B, 0, none⟩ _)).mono (fun j _ e => by simpa using e.symm)⟩
  rw [heap_setCell_same _ _ _ _ 26 _ hw]
  simp
theorem srt_del {l : List Nm} (h : Srt l) (k : ByteArray) : Srt (del k l) := by
  unfold del
  split
  · refine List.Pairwise.sublist ?_ h
    have h1 : List.Sublist (l.take (pos k l) ++ l.drop (pos k l + 1)) (l.take (pos k l) ++ l.drop (pos k l)) := List.Sublist.append (List.Sublist.refl _) (List.drop_sublist_drop_left _ (by omega))
    rw [List.take_append_drop] at h1
    exact h1
  · exact h
theorem ins_less {x : Nm} {k : ByteArray} {v : Int} {l : List Nm} (h : cmpB x.1 k = -1) : ins k v (x :: l) = x :: ins k v l := by
  have hp : pos k (x :: l) = pos k l + 1 := by simp [pos, h]
  have hh : has k (x :: l) = has k l := by unfold has; rw [hp]; simp
  unfold ins
  rw [hp, hh]
  split <;> simp
theorem ins_mem {k : ByteArray} {v : Int} {l : List Nm} {y : Nm} (h : y ∈ ins k v l) : y = (k, v) ∨ y ∈ l := by
  unfold ins at h
  rcases List.mem_append.1 h with h | h
  · exact .inr (List.mem_of_mem_take h)
  · rcases List.mem_cons.1 h with h | h
    · exact .inl h
    · exact .inr (List.mem_of_mem_drop h)
theorem srt_ins {l : List Nm} (h : Srt l) (k : ByteArray) (v : Int) : Srt (ins k v l) := by
  induction l with
  | nil => simp [ins, pos, has, Srt]
  | cons x l ih =>
    obtain ⟨h1, h2⟩ := List.pairwise_cons.1 h
    by_cases hc : cmpB x.1 k = -1
    · rw [ins_less hc]
      refine List.Pairwise.cons (fun y hy => ?_) (ih h2)
      rcases ins_mem hy with rfl | hy
      · exact hc
      · exact h1 y hy
    · have hp : pos k (x :: l) = 0 := by simp [pos, hc]
      have hh : has k (x :: l) = decide (x.1 = k) := by unfold has; rw [hp]; rfl
      unfold ins
      rw [hp, hh]
      by_cases he : x.1 = k
      · simp only [he, decide_true, if_true, List.take_zero, List.nil_append, Nat.zero_add, List.drop_succ_cons, List.drop_zero]
        exact List.Pairwise.cons (fun y hy => by have := h1 y hy; rw [he] at this; exact this) h2
      · simp only [he, decide_false, Bool.false_eq_true, if_false, List.take_zero, List.nil_append, List.drop_zero]
        have hk : cmpB k x.1 = -1 := by
          have h3 := ord_B.range x.1 k
          have h4 := ord_B.anti k x.1
          rcases h3 with h3 | h3 | h3
          · exact (hc h3).elim
          · exact (he (ord_B.eq _ _ h3)).elim
          · have := ord_B.anti x.1 k; omega
        refine List.Pairwise.cons (fun y hy => ?_) h
        rcases List.mem_cons.1 hy with rfl | hy
        · exact hk
        · exact ord_B.trans _ _ _ hk (h1 y hy)
/-- What stands from round to round. -/
structure LowI (w wr : World) (t : T) (sv : Value) (i : Nat) : Prop where
  box : wr.heap[w.heap.size]? = some (.cells #[t.ptr] 26 (0, 0))
  tree : In wr t
  bal : t.bal
  srt : Srt t.list
  list : Es wr sv t.list
  few : t.n ≤ i
  below : Below w.heap.size w wr
set_option maxHeartbeats 8000000 in
set_option maxRecDepth 100000 in
theorem low_walk (zs : List Int) (bs : List Bool) (kv bv : Value) (w : World) (hz : Cs w kv (zs.map (.int .u16))) (hb : Cs w bv (bs.map .bool)) : Calls Try.prog 5 #[kv, bv] w fun e w' => e = .returned (.bool true) ∧ Below w.heap.size w w' := by
  obtain ⟨za, zc, rfl, hzc, hzr⟩ := hz.ex
  obtain ⟨ba, bc, rfl, hbc, hbr⟩ := hb.ex
  simp only [List.length_map] at *
  have i0 : LowI w (w.alloc (.cells #[.pointer none] 26)) .nil (.slice none 0 0) 0 := ⟨heap_alloc_new w _, trivial, trivial, List.Pairwise.nil, Es.nil _, by simp [T.n], (Below.refl _ w).alloc (Nat.le_refl _) _⟩
  have HI := hide i0
  have HZ := hide (And.intro hzr hbr)
  obtain ⟨N, hN⟩ : ∃ N, N = zs.length := ⟨_, rfl⟩
  obtain ⟨M, hM⟩ : ∃ M, M = bs.length := ⟨_, rfl⟩
  rw [← hN, ← hM]
  have HN := hide (And.intro hN hM)
  clear hz hb hzc hbc hzr hbr i0 hN hM
  go_enter Try.func5, Try.ntmps5
  go_wp2
  go_loopw [6, 7] (fun v6 v7 wr => ∃ (i : Nat) (t : T), i ≤ 300 ∧ i ≤ N ∧ v7 = .int .i64 i ∧ Hid (LowI w wr t v6 i)) (fun _ v7 _ => 301 - (intOf v7).toNat)
  case atStart => exact ⟨0, .nil, by omega, by omega, rfl, HI⟩
  case round =>
    obtain ⟨i, t, hi, hiN, rfl, HL⟩ := hrel
    by_cases hgo : i < N ∧ i < 300
    · have z1 : (i : Int) < (N : Int) := by omega
      have z2 : (i : Int) < 300 := by omega
      obtain ⟨x, hx⟩ : ∃ x, zs[i]? = some x := ⟨zs[i]'(by rw [← HN.out.1]; exact hgo.1), List.getElem?_eq_getElem _⟩
      obtain ⟨b, off, hza, cx⟩ := HZ.out.1 i (.int .u16 x) (by rw [List.getElem?_map, hx]; rfl)
      subst hza
      have cz := cell_stays cx HL.out.below
      clear cx hx
      have hgo2 := hgo
      clear hgo
      go_upto_region 6 with (fail)
      have qd : wr.drew.cell? ⟨b, off + i, none⟩ = some (.int .u16 x) ∧ Hid (Below wr.heap.size wr wr.drew) := ⟨cz, hide (drew_below wr)⟩
      refine wp_region_held_drew (S := (fun w' => w'.cell? ⟨b, off + i, none⟩ = some (.int .u16 x) ∧ Hid (Below wr.heap.size wr w'))) (by kernel_rfl) qd (fun hHeld => ?_)
      try dsimp only at hHeld
      refine take_op (i := 0) (d := 22) (OP := Op.move (Operand.tmp 0)) (T := 57) (v := ?vzz1) rfl rfl rfl rfl (by kernel_rfl) (by kernel_rfl) (by kernel_rfl) (fun _ _ _ h => h) (by rfl) ?hzz1 hHeld ?rzz1
      case hzz1 => (intro w' hSw; (try dsimp only at hSw); go_simp <;> with_reducible rfl)
      try simp only [Act.put, List.setIfInBounds_toArray, List.set_cons_zero, List.set_cons_succ]
      refine take_op (i := 1) (d := 23) (OP := Op.move (Operand.tmp 7)) (T := 3) (v := ?vzz2) rfl rfl rfl rfl (by kernel_rfl) (by kernel_rfl) (by kernel_rfl) (fun _ _ _ h => h) (by rfl) ?hzz2 hHeld ?rzz2
      case hzz2 => (intro w' hSw; (try dsimp only at hSw); go_simp <;> with_reducible rfl)
      try simp only [Act.put, List.setIfInBounds_toArray, List.set_cons_zero, List.set_cons_succ]
      refine take_op (i := 2) (d := 24) (OP := Op.indexAddr 57 (Operand.tmp 22) (Operand.tmp 23)) (T := 0) (v := ?vzz3) rfl rfl rfl rfl (by kernel_rfl) (by kernel_rfl) (by kernel_rfl) (fun _ _ _ h => h) (by rfl) ?hzz3 hHeld ?rzz3
      case hzz3 => (intro w' hSw; (try dsimp only at hSw); go_simp <;> with_reducible rfl)
      try simp only [Act.put, List.setIfInBounds_toArray, List.set_cons_zero, List.set_cons_succ]
      refine take_op (i := 3) (d := 25) (OP := Op.load 59 (Operand.tmp 24)) (T := 59) (v := ?vzz4) rfl rfl rfl rfl (by kernel_rfl) (by kernel_rfl) (by kernel_rfl) (fun _ _ _ h => h) (by rfl) ?hzz4 hHeld ?rzz4
      case hzz4 => (intro w' hSw; (try dsimp only at hSw); go_simp <;> with_reducible rfl)
      try simp only [Act.put, List.setIfInBounds_toArray, List.set_cons_zero, List.set_cons_succ]
      refine take_op (i := 4) (d := 26) (OP := Op.binOp BinOp.shr 59 (Operand.tmp 25) (Operand.const (Value.int IntKind.u64 8)) 60) (T := 59) (v := ?vzz5) rfl rfl rfl rfl (by kernel_rfl) (by kernel_rfl) (by kernel_rfl) (fun _ _ _ h => h) (by rfl) ?hzz5 hHeld ?rzz5
      case hzz5 => (intro w' hSw; (try dsimp only at hSw); go_simp <;> with_reducible rfl)
      try simp only [Act.put, List.setIfInBounds_toArray, List.set_cons_zero, List.set_cons_succ]
      refine take_op (i := 5) (d := 27) (OP := Op.convert 59 5 (Operand.tmp 26)) (T := 5) (v := ?vzz6) rfl rfl rfl rfl (by kernel_rfl) (by kernel_rfl) (by kernel_rfl) (fun _ _ _ h => h) (by rfl) ?hzz6 hHeld ?rzz6
      case hzz6 => (intro w' hSw; (try dsimp only at hSw); go_simp <;> with_reducible rfl)
      try simp only [Act.put, List.setIfInBounds_toArray, List.set_cons_zero, List.set_cons_succ]
      refine take_op (i := 6) (d := 28) (OP := Op.move (Operand.tmp 0)) (T := 57) (v := ?vzz7) rfl rfl rfl rfl (by kernel_rfl) (by kernel_rfl) (by kernel_rfl) (fun _ _ _ h => h) (by rfl) ?hzz7 hHeld ?rzz7
      case hzz7 => (intro w' hSw; (try dsimp only at hSw); go_simp <;> with_reducible rfl)
      try simp only [Act.put, List.setIfInBounds_toArray, List.set_cons_zero, List.set_cons_succ]
      refine take_op (i := 7) (d := 29) (OP := Op.move (Operand.tmp 7)) (T := 3) (v := ?vzz8) rfl rfl rfl rfl (by kernel_rfl) (by kernel_rfl) (by kernel_rfl) (fun _ _ _ h => h) (by rfl) ?hzz8 hHeld ?rzz8
      case hzz8 => (intro w' hSw; (try dsimp only at hSw); go_simp <;> with_reducible rfl)
      try simp only [Act.put, List.setIfInBounds_toArray, List.set_cons_zero, List.set_cons_succ]
      refine take_op (i := 8) (d := 30) (OP := Op.indexAddr 57 (Operand.tmp 28) (Operand.tmp 29)) (T := 0) (v := ?vzz9) rfl rfl rfl rfl (by kernel_rfl) (by kernel_rfl) (by kernel_rfl) (fun _ _ _ h => h) (by rfl) ?hzz9 hHeld ?rzz9
      case hzz9 => (intro w' hSw; (try dsimp only at hSw); go_simp <;> with_reducible rfl)
      try simp only [Act.put, List.setIfInBounds_toArray, List.set_cons_zero, List.set_cons_succ]
      refine take_op (i := 9) (d := 31) (OP := Op.load 59 (Operand.tmp 30)) (T := 59) (v := ?vzz10) rfl rfl rfl rfl (by kernel_rfl) (by kernel_rfl) (by kernel_rfl) (fun _ _ _ h => h) (by rfl) ?hzz10 hHeld ?rzz10
      case hzz10 => (intro w' hSw; (try dsimp only at hSw); go_simp <;> with_reducible rfl)
      try simp only [Act.put, List.setIfInBounds_toArray, List.set_cons_zero, List.set_cons_succ]
      refine take_op (i := 10) (d := 32) (OP := Op.convert 59 5 (Operand.tmp 31)) (T := 5) (v := ?vzz11) rfl rfl rfl rfl (by kernel_rfl) (by kernel_rfl) (by kernel_rfl) (fun _ _ _ h => h) (by rfl) ?hzz11 hHeld ?rzz11
      case hzz11 => (intro w' hSw; (try dsimp only at hSw); go_simp <;> with_reducible rfl)
      try simp only [Act.put, List.setIfInBounds_toArray, List.set_cons_zero, List.set_cons_succ]
      generalize IntKind.u8.wrap (x / 256) = ch
      generalize IntKind.u8.wrap x = cl
      obtain ⟨wk, hwk⟩ : ∃ wk, wk = wr.drew.alloc (.cells #[.int .u8 ch, .int .u8 cl] 5) := ⟨_, rfl⟩
      have bk : Below wr.heap.size wr wk := by rw [hwk]; exact (drew_below wr).alloc (Nat.le_refl _) _
      have qk : wk.cell? ⟨b, off + i, none⟩ = some (.int .u16 x) ∧ Hid (Below wr.heap.size wr wk) := ⟨cell_stays cz bk, hide bk⟩
      have hrd : Rd wk (some ⟨wr.heap.size, 0, none⟩) [ch, cl] := by
        rw [hwk]
        refine ⟨by simp, fun a ha j u hj => ?_⟩
        cases ha
        rw [add_lit, Nat.zero_add]
        have hc := cell_of_row (wr.drew.alloc (.cells #[.int .u8 ch, .int .u8 cl] 5)) wr.drew.heap.size j _ 5 (0, 0) (heap_alloc_new wr.drew _)
        refine Eq.trans hc ?_
        simpa [u8s] using hj
      have hconv := conv_rd (n := 2) (cap := 2) hrd rfl
      generalize strOfNums [ch, cl] = kk at hconv
      refine turn_op (i := 11) (d := 33) (OP := Op.buildSlice 61 2 #[(0, Operand.tmp 27), (1, Operand.tmp 32)]) (T := 61) (v := .slice (some ⟨wr.heap.size, 0, none⟩) 2 2) (w' := wk) rfl rfl rfl rfl (by kernel_rfl) (by rfl) (by rw [hwk]; go_simp <;> rfl) qk ?_
      try simp only [Act.put, List.setIfInBounds_toArray, List.set_cons_zero, List.set_cons_succ]
      replace hHeld := qk
      clear hrd hwk qd
      refine alone_op (i := 12) (d := 34) (OP := Op.convert 61 9 (Operand.tmp 33)) (T := 9) (v := .string kk) rfl rfl rfl rfl (by kernel_rfl) (by rfl) (by go_simp <;> rfl) qk ?_
      try simp only [Act.put, List.setIfInBounds_toArray, List.set_cons_zero, List.set_cons_succ]
      refine take_op (i := 13) (d := 8) (OP := Op.assign (Operand.tmp 34)) (T := 9) (v := ?vzz12) rfl rfl rfl rfl (by kernel_rfl) (by kernel_rfl) (by kernel_rfl) (fun _ _ _ h => h) (by rfl) ?hzz12 hHeld ?rzz12
      case hzz12 => (intro w' hSw; (try dsimp only at hSw); go_simp <;> with_reducible rfl)
      try simp only [Act.put, List.setIfInBounds_toArray, List.set_cons_zero, List.set_cons_succ]
      refine wpAnyH_done (by kernel_rfl) ?_ _
      clear hconv hHeld
      have bkk := hide bk
      obtain ⟨a, ha⟩ := t.ptr_shape
      have hbx : ∀ W, Below wk.heap.size wk W → W.heap[w.heap.size]? = some (.cells #[.pointer a] 26 (0, 0)) := fun W hW => by
        have h1 := HL.out.box
        rw [ha] at h1
        have hlt := (Array.getElem?_eq_some_iff.1 h1).1
        exact (hW.block _ (Nat.lt_of_lt_of_le hlt bk.size)).trans ((bk.block _ hlt).trans h1)
      have cb : wk.cell? ⟨w.heap.size, 0, none⟩ = some (.pointer a) := by rw [cell_of_row _ _ 0 _ 26 (0, 0) (hbx wk (Below.refl _ _))]; rfl
      have HBX := hide hbx
      have hn3 : t.n ≤ 700000 := by have := HL.out.few; omega
      have hll : t.list.length ≤ 100000 := by rw [T.n_eq]; have := HL.out.few; omega
      have mt := mTake_any t kk wk (In.below bk HL.out.tree) hn3
      have mp := mPut_any t kk (i : Nat) wk (In.below bk HL.out.tree) hn3
      have lt : ∀ W, Below wk.heap.size wk W → Calls Try.prog 14 #[u6, .string kk] W fun e w' => ∃ sv', e = .returned sv' ∧ Es w' sv' (del kk t.list) ∧ Below W.heap.size W w' := fun W hW => ltake_any t.list u6 kk W ((HL.out.list.below bk).below hW) hll
      have lp : ∀ W, Below wk.heap.size wk W → Calls Try.prog 10 #[u6, .string kk, .int .i64 (i : Nat)] W fun e w' => ∃ sv', e = .returned sv' ∧ Es w' sv' (ins kk (i : Nat) t.list) ∧ Below W.heap.size W w' := fun W hW => lput_any t.list u6 kk (i : Nat) W ((HL.out.list.below bk).below hW) hll
      unfold mv at mt mp
      rw [ha] at mt mp
      clear bk qk hbx hn3 hll ha
      by_cases hbit : i < M ∧ bs[i]? = some true
      · have z3 : (i : Int) < (M : Int) := by omega
        obtain ⟨bb, bo, hba, cbt⟩ := HZ.out.2 i (.bool true) (by rw [List.getElem?_map, hbit.2]; rfl)
        subst hba
        have cbt2 := cell_stays (cell_stays cbt HL.out.below) bkk.out
        clear cbt hbit
        go_upto_region 11 with (first
                | (go_at_call 13; refine mt.mono ?_; rintro e w1 ⟨t', he, i1, ht, b1⟩; obtain ⟨a', ha'⟩ := t'.ptr_shape; rw [ha'] at he; subst he; have lt1 := lt w1 b1; dsimp only)
                | (go_at_call 14; refine lt1.mono ?_; rintro e w2 ⟨sv', rfl, e2, b2⟩; have h2 := HBX.out w2 (b1.trans (b2.mono b1.size)); have c2 : w2.cell? ⟨w.heap.size, 0, none⟩ = some (.pointer a) := (cell_of_row _ _ 0 _ 26 (0, 0) h2).trans rfl; have f2 : w2.frozen? ⟨w.heap.size, 0, none⟩ = false := frozen_of_row _ _ 0 _ 26 h2; have H2 := hide (And.intro h2 (And.intro e2 (And.intro ha' (And.intro (In.below b2 i1) (And.intro ht (b1.trans (b2.mono b1.size))))))); clear h2 e2 ha' i1 ht b2; dsimp only))
        obtain ⟨h2, e2, ha', i2, ht, b2⟩ := H2.out
        have sy := ht.says HL.out.srt HL.out.bal (In.under (In.below bkk.out HL.out.tree))
        have bw2 := (HL.out.below.trans (bkk.out.mono HL.out.below.size)).trans (b2.mono (HL.out.below.trans (bkk.out.mono HL.out.below.size)).size)
        obtain ⟨o1, o2, o3⟩ := set_box (y := a') h2 (Nat.le_refl _) bw2
        have hnn : t'.n ≤ i + 1 := by have h1 := HL.out.few; have h3 := ht.n; omega
        have hI : LowI w (w2.setCell ⟨w.heap.size, 0, none⟩ (.pointer a')) t' sv' (i + 1) := ⟨by rw [ha']; exact o1, In.aside h2 o3 i2, sy.bal, by rw [ht.list HL.out.srt]; exact srt_del HL.out.srt kk, by rw [ht.list HL.out.srt]; exact e2.aside h2 o3, hnn, o2⟩
        have HI3 := hide hI
        obtain ⟨w3, hw3⟩ : ∃ w3, w3 = w2.setCell ⟨w.heap.size, 0, none⟩ (.pointer a') := ⟨_, rfl⟩
        rw [← hw3] at hI HI3 o1 ⊢
        obtain ⟨ao', cap', hsv, _, hcap', _⟩ := hI.list.ex
        rw [T.n_eq] at hsv hcap'
        have c3 : w3.cell? ⟨w.heap.size, 0, none⟩ = some (.pointer a') := (cell_of_row _ _ 0 _ 26 (0, 0) o1).trans rfl
        have cH : ∀ W, Below w3.heap.size w3 W → Calls Try.prog 12 #[.agg #[.pointer a']] W fun e w' => e = .returned (.int .i64 (t'.h : Nat)) ∧ Below W.heap.size W w' := fun W hW => by
          have := mHeight_any t' W (In.below hW hI.tree)
          unfold mv at this
          rw [ha'] at this
          exact this
        have cL : ∀ W, Below w3.heap.size w3 W → Calls Try.prog 19 #[.agg #[.pointer a']] W fun e w' => e = .returned (.int .i64 (t'.n : Nat)) ∧ Below W.heap.size W w' := fun W hW => by
          have := mLen_any t' W (In.below hW hI.tree)
          unfold mv at this
          rw [ha'] at this
          exact this
        have hfib := fib_low t' hI.bal
        have hH60 := low60 hI.bal (by omega)
        have hfu : ∀ j, j ≤ t'.h → (fibP j).2 ≤ 302 := fun j hj => by have := fib_up hj; omega
        subst hsv
        have HFU := hide (And.intro hfu hfib)
        clear hI o1 o2 o3 hw3 h2 e2 i2 ht b2 sy bw2 hfu hcap' ha' mt mp lt lp cz cb
        generalize t'.h = H at *
        generalize hgn : t'.n = n at *
        have HGN := hide hgn
        clear hgn c2 f2 b1 hfib
        go_wp2
        go_loopw [9, 10, 11] (fun v9 v10 v11 wq => ∃ j : Nat, j ≤ H ∧ v11 = .int .i64 j ∧ v9 = .int .i64 ((fibP j).1 : Nat) ∧ v10 = .int .i64 ((fibP j).2 : Nat) ∧ wq.cell? ⟨w.heap.size, 0, none⟩ = some (.pointer a') ∧ Hid (Below w3.heap.size w3 wq)) (fun _ _ v11 _ => H - (intOf v11).toNat)
        case atStart => exact ⟨0, by omega, rfl, rfl, rfl, c3, hide (Below.refl _ _)⟩
        case round =>
          obtain ⟨j, hj, rfl, rfl, rfl, cq, HQ⟩ := hrel
          by_cases hjH : j < H
          · have z5 : (j : Int) < (H : Int) := by omega
            have hs1 : ((fibP j).1 : Int) + ((fibP j).2 : Int) ≤ 302 := by
              have := HFU.out.1 (j + 1) (by omega)
              simp only [fibP] at this
              omega
            have hf1 : (0 : Int) ≤ ((fibP j).1 : Int) := by omega
            have hf2 : (0 : Int) ≤ ((fibP j).2 : Int) := by omega
            have e1 : (((fibP (j + 1)).1 : Nat) : Int) = ((fibP j).2 : Int) := rfl
            have e2 : (((fibP (j + 1)).2 : Nat) : Int) = ((fibP j).1 : Int) + ((fibP j).2 : Int) := by simp [fibP]
            have HE12 := hide (And.intro e1 e2)
            clear e1 e2
            generalize ((fibP j).1 : Int) = f1 at *
            generalize ((fibP j).2 : Int) = f2 at *
            go_wp2_with (go_at_call 12; refine (cH _ HQ.out).mono ?_; rintro e w4 ⟨rfl, b4⟩; have c4 := cell_stays cq b4; have H4 := hide (HQ.out.trans (b4.mono HQ.out.size)); clear b4; dsimp only)
            go_roundw
            case rel => exact ⟨j + 1, by omega, by go_num, by rw [HE12.out.1], by rw [HE12.out.2], c4, H4⟩
            case measure => simp [intOf]; omega
          · have ej : j = H := by omega
            subst ej
            have z5 : decide ((j : Int) < (j : Int)) = false := by simp
            have hf3 := HFU.out.2
            have hf4 := HFU.out.1 j (Nat.le_refl _)
            have z6 : ¬ ((n : Int) < (((fibP j).2 : Nat) : Int) - 1) := by omega
            generalize (fibP j).2 = f2 at *
            generalize (fibP j).1 = f1 at *
            have z7 : decide ((n : Int) < (f2 : Int) - 1) = false := by simpa using z6
            have tk : True := trivial
            go_wp2_with (first
              | (go_at_call 12; refine (cH _ HQ.out).mono ?_; rintro e w4 ⟨rfl, b4⟩; have c4 := cell_stays cq b4; have H4 := hide (HQ.out.trans (b4.mono HQ.out.size)); clear b4; dsimp only)
              | (go_at_call 19; clear tk; refine (cL _ H4.out).mono ?_; rintro e w5 ⟨rfl, b5⟩; have c5 := cell_stays c4 b5; have H5 := hide (H4.out.trans (b5.mono H4.out.size)); clear b5; dsimp only)
              | (go_at_call 19; refine (cL _ H5.out).mono ?_; rintro e w6 ⟨rfl, b6⟩; have c6 := cell_stays c5 b6; have H6 := hide (H5.out.trans (b6.mono H5.out.size)); clear b6; dsimp only))
            go_roundw
            case rel =>
              have hI3 := HI3.out
              refine ⟨i + 1, t', by omega, by omega, by go_num, hide ⟨?_, In.below H6.out hI3.tree, hI3.bal, hI3.srt, hI3.list.below H6.out, by rw [HGN.out]; exact hnn, hI3.below.trans (H6.out.mono hI3.below.size)⟩⟩
              exact (H6.out.block _ (Array.getElem?_eq_some_iff.1 hI3.box).1).trans hI3.box
            case measure => simp [intOf]; omega
      · by_cases hiM : i < M
        · have z3 : (i : Int) < (M : Int) := by omega
          have hbf : bs[i]? = some false := by
            have hlt : i < bs.length := by rw [← HN.out.2]; exact hiM
            rw [List.getElem?_eq_getElem hlt]
            cases hv : bs[i] with
            | true => exact (hbit ⟨hiM, by rw [List.getElem?_eq_getElem hlt, hv]⟩).elim
            | false => rfl
          obtain ⟨bb, bo, hba, cbt⟩ := HZ.out.2 i (.bool false) (by rw [List.getElem?_map, hbf]; rfl)
          subst hba
          have cbt2 := cell_stays (cell_stays cbt HL.out.below) bkk.out
          clear cbt hbit hbf
          go_upto_region 11 with (first
                  | (go_at_call 9; refine mp.mono ?_; rintro e w1 ⟨t', he, i1, ht, b1⟩; obtain ⟨a', ha'⟩ := t'.ptr_shape; rw [ha'] at he; subst he; have lt1 := lp w1 b1; dsimp only)
                  | (go_at_call 10; refine lt1.mono ?_; rintro e w2 ⟨sv', rfl, e2, b2⟩; have h2 := HBX.out w2 (b1.trans (b2.mono b1.size)); have c2 : w2.cell? ⟨w.heap.size, 0, none⟩ = some (.pointer a) := (cell_of_row _ _ 0 _ 26 (0, 0) h2).trans rfl; have f2 : w2.frozen? ⟨w.heap.size, 0, none⟩ = false := frozen_of_row _ _ 0 _ 26 h2; have H2 := hide (And.intro h2 (And.intro e2 (And.intro ha' (And.intro (In.below b2 i1) (And.intro ht (b1.trans (b2.mono b1.size))))))); clear h2 e2 ha' i1 ht b2; dsimp only))
          obtain ⟨h2, e2, ha', i2, ht, b2⟩ := H2.out
          have sy := ht.says HL.out.srt HL.out.bal (In.under (In.below bkk.out HL.out.tree))
          have bw2 := (HL.out.below.trans (bkk.out.mono HL.out.below.size)).trans (b2.mono (HL.out.below.trans (bkk.out.mono HL.out.below.size)).size)
          obtain ⟨o1, o2, o3⟩ := set_box (y := a') h2 (Nat.le_refl _) bw2
          have hnn : t'.n ≤ i + 1 := by have h1 := HL.out.few; have h3 := ht.n; omega
          have hI : LowI w (w2.setCell ⟨w.heap.size, 0, none⟩ (.pointer a')) t' sv' (i + 1) := ⟨by rw [ha']; exact o1, In.aside h2 o3 i2, sy.bal, by rw [ht.list HL.out.srt]; exact srt_ins HL.out.srt kk i, by rw [ht.list HL.out.srt]; exact e2.aside h2 o3, hnn, o2⟩
          have HI3 := hide hI
          obtain ⟨w3, hw3⟩ : ∃ w3, w3 = w2.setCell ⟨w.heap.size, 0, none⟩ (.pointer a') := ⟨_, rfl⟩
          rw [← hw3] at hI HI3 o1 ⊢
          obtain ⟨ao', cap', hsv, _, hcap', _⟩ := hI.list.ex
          rw [T.n_eq] at hsv hcap'
          have c3 : w3.cell? ⟨w.heap.size, 0, none⟩ = some (.pointer a') := (cell_of_row _ _ 0 _ 26 (0, 0) o1).trans rfl
          have cH : ∀ W, Below w3.heap.size w3 W → Calls Try.prog 12 #[.agg #[.pointer a']] W fun e w' => e = .returned (.int .i64 (t'.h : Nat)) ∧ Below W.heap.size W w' := fun W hW => by
            have := mHeight_any t' W (In.below hW hI.tree)
            unfold mv at this
            rw [ha'] at this
            exact this
          have cL : ∀ W, Below w3.heap.size w3 W → Calls Try.prog 19 #[.agg #[.pointer a']] W fun e w' => e = .returned (.int .i64 (t'.n : Nat)) ∧ Below W.heap.size W w' := fun W hW => by
            have := mLen_any t' W (In.below hW hI.tree)
            unfold mv at this
            rw [ha'] at this
            exact this
          have hfib := fib_low t' hI.bal
          have hH60 := low60 hI.bal (by omega)
          have hfu : ∀ j, j ≤ t'.h → (fibP j).2 ≤ 302 := fun j hj => by have := fib_up hj; omega
          subst hsv
          have HFU := hide (And.intro hfu hfib)
          clear hI o1 o2 o3 hw3 h2 e2 i2 ht b2 sy bw2 hfu hcap' ha' mt mp lt lp cz cb
          generalize t'.h = H at *
          generalize hgn : t'.n = n at *
          have HGN := hide hgn
          clear hgn c2 f2 b1 hfib
          go_wp2
          go_loopw [9, 10, 11] (fun v9 v10 v11 wq => ∃ j : Nat, j ≤ H ∧ v11 = .int .i64 j ∧ v9 = .int .i64 ((fibP j).1 : Nat) ∧ v10 = .int .i64 ((fibP j).2 : Nat) ∧ wq.cell? ⟨w.heap.size, 0, none⟩ = some (.pointer a') ∧ Hid (Below w3.heap.size w3 wq)) (fun _ _ v11 _ => H - (intOf v11).toNat)
          case atStart => exact ⟨0, by omega, rfl, rfl, rfl, c3, hide (Below.refl _ _)⟩
          case round =>
            obtain ⟨j, hj, rfl, rfl, rfl, cq, HQ⟩ := hrel
            by_cases hjH : j < H
            · have z5 : (j : Int) < (H : Int) := by omega
              have hs1 : ((fibP j).1 : Int) + ((fibP j).2 : Int) ≤ 302 := by
                have := HFU.out.1 (j + 1) (by omega)
                simp only [fibP] at this
                omega
              have hf1 : (0 : Int) ≤ ((fibP j).1 : Int) := by omega
              have hf2 : (0 : Int) ≤ ((fibP j).2 : Int) := by omega
              have e1 : (((fibP (j + 1)).1 : Nat) : Int) = ((fibP j).2 : Int) := rfl
              have e2 : (((fibP (j + 1)).2 : Nat) : Int) = ((fibP j).1 : Int) + ((fibP j).2 : Int) := by simp [fibP]
              have HE12 := hide (And.intro e1 e2)
              clear e1 e2
              generalize ((fibP j).1 : Int) = f1 at *
              generalize ((fibP j).2 : Int) = f2 at *
              go_wp2_with (go_at_call 12; refine (cH _ HQ.out).mono ?_; rintro e w4 ⟨rfl, b4⟩; have c4 := cell_stays cq b4; have H4 := hide (HQ.out.trans (b4.mono HQ.out.size)); clear b4; dsimp only)
              go_roundw
              case rel => exact ⟨j + 1, by omega, by go_num, by rw [HE12.out.1], by rw [HE12.out.2], c4, H4⟩
              case measure => simp [intOf]; omega
            · have ej : j = H := by omega
              subst ej
              have z5 : decide ((j : Int) < (j : Int)) = false := by simp
              have hf3 := HFU.out.2
              have hf4 := HFU.out.1 j (Nat.le_refl _)
              have z6 : ¬ ((n : Int) < (((fibP j).2 : Nat) : Int) - 1) := by omega
              generalize (fibP j).2 = f2 at *
              generalize (fibP j).1 = f1 at *
              have z7 : decide ((n : Int) < (f2 : Int) - 1) = false := by simpa using z6
              have tk : True := trivial
              go_wp2_with (first
                | (go_at_call 12; refine (cH _ HQ.out).mono ?_; rintro e w4 ⟨rfl, b4⟩; have c4 := cell_stays cq b4; have H4 := hide (HQ.out.trans (b4.mono HQ.out.size)); clear b4; dsimp only)
                | (go_at_call 19; clear tk; refine (cL _ H4.out).mono ?_; rintro e w5 ⟨rfl, b5⟩; have c5 := cell_stays c4 b5; have H5 := hide (H4.out.trans (b5.mono H4.out.size)); clear b5; dsimp only)
                | (go_at_call 19; refine (cL _ H5.out).mono ?_; rintro e w6 ⟨rfl, b6⟩; have c6 := cell_stays c5 b6; have H6 := hide (H5.out.trans (b6.mono H5.out.size)); clear b6; dsimp only))
              go_roundw
              case rel =>
                have hI3 := HI3.out
                refine ⟨i + 1, t', by omega, by omega, by go_num, hide ⟨?_, In.below H6.out hI3.tree, hI3.bal, hI3.srt, hI3.list.below H6.out, by rw [HGN.out]; exact hnn, hI3.below.trans (H6.out.mono hI3.below.size)⟩⟩
                exact (H6.out.block _ (Array.getElem?_eq_some_iff.1 hI3.box).1).trans hI3.box
              case measure => simp [intOf]; omega
        · have z3 : ¬ (i : Int) < (M : Int) := by omega
          have z4 : decide ((i : Int) < (M : Int)) = false := by simpa using z3
          clear hbit
          go_upto_region 11 with (first
                  | (go_at_call 9; refine mp.mono ?_; rintro e w1 ⟨t', he, i1, ht, b1⟩; obtain ⟨a', ha'⟩ := t'.ptr_shape; rw [ha'] at he; subst he; have lt1 := lp w1 b1; dsimp only)
                  | (go_at_call 10; refine lt1.mono ?_; rintro e w2 ⟨sv', rfl, e2, b2⟩; have h2 := HBX.out w2 (b1.trans (b2.mono b1.size)); have c2 : w2.cell? ⟨w.heap.size, 0, none⟩ = some (.pointer a) := (cell_of_row _ _ 0 _ 26 (0, 0) h2).trans rfl; have f2 : w2.frozen? ⟨w.heap.size, 0, none⟩ = false := frozen_of_row _ _ 0 _ 26 h2; have H2 := hide (And.intro h2 (And.intro e2 (And.intro ha' (And.intro (In.below b2 i1) (And.intro ht (b1.trans (b2.mono b1.size))))))); clear h2 e2 ha' i1 ht b2; dsimp only))
          obtain ⟨h2, e2, ha', i2, ht, b2⟩ := H2.out
          have sy := ht.says HL.out.srt HL.out.bal (In.under (In.below bkk.out HL.out.tree))
          have bw2 := (HL.out.below.trans (bkk.out.mono HL.out.below.size)).trans (b2.mono (HL.out.below.trans (bkk.out.mono HL.out.below.size)).size)
          obtain ⟨o1, o2, o3⟩ := set_box (y := a') h2 (Nat.le_refl _) bw2
          have hnn : t'.n ≤ i + 1 := by have h1 := HL.out.few; have h3 := ht.n; omega
          have hI : LowI w (w2.setCell ⟨w.heap.size, 0, none⟩ (.pointer a')) t' sv' (i + 1) := ⟨by rw [ha']; exact o1, In.aside h2 o3 i2, sy.bal, by rw [ht.list HL.out.srt]; exact srt_ins HL.out.srt kk i, by rw [ht.list HL.out.srt]; exact e2.aside h2 o3, hnn, o2⟩
          have HI3 := hide hI
          obtain ⟨w3, hw3⟩ : ∃ w3, w3 = w2.setCell ⟨w.heap.size, 0, none⟩ (.pointer a') := ⟨_, rfl⟩
          rw [← hw3] at hI HI3 o1 ⊢
          obtain ⟨ao', cap', hsv, _, hcap', _⟩ := hI.list.ex
          rw [T.n_eq] at hsv hcap'
          have c3 : w3.cell? ⟨w.heap.size, 0, none⟩ = some (.pointer a') := (cell_of_row _ _ 0 _ 26 (0, 0) o1).trans rfl
          have cH : ∀ W, Below w3.heap.size w3 W → Calls Try.prog 12 #[.agg #[.pointer a']] W fun e w' => e = .returned (.int .i64 (t'.h : Nat)) ∧ Below W.heap.size W w' := fun W hW => by
            have := mHeight_any t' W (In.below hW hI.tree)
            unfold mv at this
            rw [ha'] at this
            exact this
          have cL : ∀ W, Below w3.heap.size w3 W → Calls Try.prog 19 #[.agg #[.pointer a']] W fun e w' => e = .returned (.int .i64 (t'.n : Nat)) ∧ Below W.heap.size W w' := fun W hW => by
            have := mLen_any t' W (In.below hW hI.tree)
            unfold mv at this
            rw [ha'] at this
            exact this
          have hfib := fib_low t' hI.bal
          have hH60 := low60 hI.bal (by omega)
          have hfu : ∀ j, j ≤ t'.h → (fibP j).2 ≤ 302 := fun j hj => by have := fib_up hj; omega
          subst hsv
          have HFU := hide (And.intro hfu hfib)
          clear hI o1 o2 o3 hw3 h2 e2 i2 ht b2 sy bw2 hfu hcap' ha' mt mp lt lp cz cb
          generalize t'.h = H at *
          generalize hgn : t'.n = n at *
          have HGN := hide hgn
          clear hgn c2 f2 b1 hfib
          go_wp2
          go_loopw [9, 10, 11] (fun v9 v10 v11 wq => ∃ j : Nat, j ≤ H ∧ v11 = .int .i64 j ∧ v9 = .int .i64 ((fibP j).1 : Nat) ∧ v10 = .int .i64 ((fibP j).2 : Nat) ∧ wq.cell? ⟨w.heap.size, 0, none⟩ = some (.pointer a') ∧ Hid (Below w3.heap.size w3 wq)) (fun _ _ v11 _ => H - (intOf v11).toNat)
          case atStart => exact ⟨0, by omega, rfl, rfl, rfl, c3, hide (Below.refl _ _)⟩
          case round =>
            obtain ⟨j, hj, rfl, rfl, rfl, cq, HQ⟩ := hrel
            by_cases hjH : j < H
            · have z5 : (j : Int) < (H : Int) := by omega
              have hs1 : ((fibP j).1 : Int) + ((fibP j).2 : Int) ≤ 302 := by
                have := HFU.out.1 (j + 1) (by omega)
                simp only [fibP] at this
                omega
              have hf1 : (0 : Int) ≤ ((fibP j).1 : Int) := by omega
              have hf2 : (0 : Int) ≤ ((fibP j).2 : Int) := by omega
              have e1 : (((fibP (j + 1)).1 : Nat) : Int) = ((fibP j).2 : Int) := rfl
              have e2 : (((fibP (j + 1)).2 : Nat) : Int) = ((fibP j).1 : Int) + ((fibP j).2 : Int) := by simp [fibP]
              have HE12 := hide (And.intro e1 e2)
              clear e1 e2
              generalize ((fibP j).1 : Int) = f1 at *
              generalize ((fibP j).2 : Int) = f2 at *
              go_wp2_with (go_at_call 12; refine (cH _ HQ.out).mono ?_; rintro e w4 ⟨rfl, b4⟩; have c4 := cell_stays cq b4; have H4 := hide (HQ.out.trans (b4.mono HQ.out.size)); clear b4; dsimp only)
              go_roundw
              case rel => exact ⟨j + 1, by omega, by go_num, by rw [HE12.out.1], by rw [HE12.out.2], c4, H4⟩
              case measure => simp [intOf]; omega
            · have ej : j = H := by omega
              subst ej
              have z5 : decide ((j : Int) < (j : Int)) = false := by simp
              have hf3 := HFU.out.2
              have hf4 := HFU.out.1 j (Nat.le_refl _)
              have z6 : ¬ ((n : Int) < (((fibP j).2 : Nat) : Int) - 1) := by omega
              generalize (fibP j).2 = f2 at *
              generalize (fibP j).1 = f1 at *
              have z7 : decide ((n : Int) < (f2 : Int) - 1) = false := by simpa using z6
              have tk : True := trivial
              go_wp2_with (first
                | (go_at_call 12; refine (cH _ HQ.out).mono ?_; rintro e w4 ⟨rfl, b4⟩; have c4 := cell_stays cq b4; have H4 := hide (HQ.out.trans (b4.mono HQ.out.size)); clear b4; dsimp only)
                | (go_at_call 19; clear tk; refine (cL _ H4.out).mono ?_; rintro e w5 ⟨rfl, b5⟩; have c5 := cell_stays c4 b5; have H5 := hide (H4.out.trans (b5.mono H4.out.size)); clear b5; dsimp only)
                | (go_at_call 19; refine (cL _ H5.out).mono ?_; rintro e w6 ⟨rfl, b6⟩; have c6 := cell_stays c5 b6; have H6 := hide (H5.out.trans (b6.mono H5.out.size)); clear b6; dsimp only))
              go_roundw
              case rel =>
                have hI3 := HI3.out
                refine ⟨i + 1, t', by omega, by omega, by go_num, hide ⟨?_, In.below H6.out hI3.tree, hI3.bal, hI3.srt, hI3.list.below H6.out, by rw [HGN.out]; exact hnn, hI3.below.trans (H6.out.mono hI3.below.size)⟩⟩
                exact (H6.out.block _ (Array.getElem?_eq_some_iff.1 hI3.box).1).trans hI3.box
              case measure => simp [intOf]; omega
    · by_cases hiN2 : i < N
      · have h300 : i = 300 := by omega
        obtain ⟨a, ha⟩ := t.ptr_shape
        have cb : wr.cell? ⟨w.heap.size, 0, none⟩ = some (.pointer a) := by rw [cell_of_row _ _ 0 _ 26 (0, 0) HL.out.box, ha]; rfl
        have ct := tells_any t u6 3 ⟨#[]⟩ wr ⟨HL.out.tree, HL.out.bal, HL.out.srt, by have := HL.out.few; omega⟩ HL.out.list
        unfold mv at ct
        rw [ha] at ct
        have HB := hide HL.out.below
        clear ha HL
        have z1 : (i : Int) < (N : Int) := by omega
        have z2 : i = 300 := by omega
        subst z2
        go_wp2_with (first
          | (go_at_call 17; refine ct.mono ?_; rintro e w1 ⟨rfl, b1⟩; dsimp only)
          | (go_at_call 7; refine (known_any _).mono ?_; rintro e w2 ⟨rfl, b2⟩; dsimp only))
        go_ret
        exact ⟨by simp, (HB.out.trans (b1.mono HB.out.size)).trans (b2.mono (HB.out.trans (b1.mono HB.out.size)).size)⟩
      · have hx0 : ¬ i < N := hiN2
        obtain ⟨a, ha⟩ := t.ptr_shape
        have cb : wr.cell? ⟨w.heap.size, 0, none⟩ = some (.pointer a) := by rw [cell_of_row _ _ 0 _ 26 (0, 0) HL.out.box, ha]; rfl
        have ct := tells_any t u6 3 ⟨#[]⟩ wr ⟨HL.out.tree, HL.out.bal, HL.out.srt, by have := HL.out.few; omega⟩ HL.out.list
        unfold mv at ct
        rw [ha] at ct
        have HB := hide HL.out.below
        clear ha HL
        have z1 : ¬ (i : Int) < (N : Int) := by omega
        have z2 : decide ((i : Int) < (N : Int)) = false := by simpa using z1
        go_wp2_with (first
          | (go_at_call 17; refine ct.mono ?_; rintro e w1 ⟨rfl, b1⟩; dsimp only)
          | (go_at_call 7; refine (known_any _).mono ?_; rintro e w2 ⟨rfl, b2⟩; dsimp only))
        go_ret
        exact ⟨by simp, (HB.out.trans (b1.mono HB.out.size)).trans (b2.mono (HB.out.trans (b1.mono HB.out.size)).size)⟩
end Go.Proofs.Ytleaaoknjflgoaa
