/-
  register: what is gathered over All (86, 88).
-/
import Derived.Test.YtkkpdgfllnbigaaGreatMg13
namespace Go.Proofs.YtkkpdgfllnbigaaGreat
open Go.RowKit Go.Shelf
set_option linter.unusedSimpArgs false
attribute [local go_sem] Oper.semAt_some

/-- What stands between rounds. -/
structure GIE (wA : World) (Lb B : Nat) (p : List El) (W : World) : Prop where
  only : Only (fun j => j = Lb ∨ B ≤ j) wA W
  box : ∃ ao c, W.heap[Lb]? = some (.cells #[.slice ao p.length c] 22 (0, 0)) ∧ Oe W B (.slice ao p.length c) p
theorem GIE.own {wA : World} {Lb B : Nat} {p : List El} {W W' : World} (h : GIE wA Lb B p W) (hL : Lb < wA.heap.size) (_hB : wA.heap.size + 2 ≤ B) (ho : Only (fun j => wA.heap.size + 1 ≤ j ∧ j < B) W W') : GIE wA Lb B p W' := by
  obtain ⟨ao, c, hb, hO⟩ := h.box
  refine ⟨h.only.trans ho (fun j hj e => by have e' : wA.heap.size + 1 ≤ j ∧ j < B := e; omega), ao, c, (ho.block _ (Array.getElem?_eq_some_iff.1 hb).1 (fun e => by have e' : wA.heap.size + 1 ≤ Lb ∧ Lb < B := e; omega)).trans hb, hO.only ho (fun k hk e => by have := World.ownsRow.lt hO k hk; have e' : wA.heap.size + 1 ≤ k ∧ k < B := e; omega)⟩
set_option maxHeartbeats 8000000 in
set_option maxRecDepth 100000 in
theorem gathE_any (t : Pm.T) (w : World) (ht : Pm.In w t) (hs : Pm.Srt t.list) (hk : ∀ x ∈ t.list, x.1.size ≤ 9223372036854775807) (hn : t.n ≤ 100000) :
    Calls Tryz.prog 141 #[Pm.mv t, .func (.func 142) #[] #[]] w fun e w' => ∃ ao c, e = .returned (.tuple #[.slice ao (elsL t.list).length c, .int .i64 (if mayL t.list then 0 else 2)]) ∧ Oe w' w.heap.size (.slice ao (elsL t.list).length c) (elsL t.list) ∧ Below w.heap.size w w' := by
  obtain ⟨a, ha⟩ := t.ptr_shape
  obtain ⟨w1, hw1⟩ : ∃ w1, w1 = ((w.alloc (.cells #[.pointer a] 27)).alloc (.cells #[.func (.func 142) #[] #[]] 149)).alloc (.cells #[.slice none 0 0] 22) := ⟨_, rfl⟩
  obtain ⟨m0, m1, m2, b1⟩ := new3r w (.cells #[.pointer a] 27) (.cells #[.func (.func 142) #[] #[]] 149) (.cells #[.slice none 0 0] 22)
  rw [← hw1] at m0 m1 m2 b1
  have s1 : w1.heap.size = w.heap.size + 3 := by rw [hw1]; simp
  have hAll := rAll_any t w1
  obtain ⟨wA, hwA⟩ : ∃ wA, wA = w1.alloc (.cells #[t.ptr] 27) := ⟨_, rfl⟩
  rw [← hwA] at hAll
  have sA : wA.heap.size = w1.heap.size + 1 := by rw [hwA]; simp
  have bA : Below w1.heap.size w1 wA := by rw [hwA]; exact (Below.refl _ w1).alloc (Nat.le_refl _) _
  have bWA : Below w.heap.size w wA := b1.trans (bA.mono b1.size)
  have cL : wA.cell? ⟨w1.heap.size, 0, none⟩ = some t.ptr := by rw [hwA]; exact (cell_of_row _ _ 0 _ 27 (0, 0) (heap_alloc_new w1 _)).trans rfl
  have iA : Pm.In wA t := Pm.In.below bWA ht
  have hit := iterAll t w1.heap.size wA iA hs hk cL
  obtain ⟨xs, hxs⟩ : ∃ xs, xs = elsL t.list := ⟨_, rfl⟩
  rw [← hxs] at hit ⊢
  obtain ⟨ec, hec⟩ : ∃ ec : Int, ec = (if mayL t.list then 0 else 2) := ⟨_, rfl⟩
  rw [← hec]
  have HEC := hide hec
  clear hec
  obtain ⟨pl, hpl⟩ : ∃ pl, pl = xs := ⟨_, rfl⟩
  rw [← hpl]
  have HPL := hide hpl
  clear hpl
  have hxl : xs.length ≤ 100000 := by
    rw [hxs, elsL]
    split
    · rw [elsM, List.length_map, Pm.T.n_eq]; exact hn
    · simp
  obtain ⟨T0, hT0⟩ : ∃ q, q = w.heap.size + 1 := ⟨_, rfl⟩
  obtain ⟨Lb, hLb⟩ : ∃ q, q = w.heap.size + 1 + 1 := ⟨_, rfl⟩
  obtain ⟨Mb, hMb⟩ : ∃ q, q = w.heap.size := ⟨_, rfl⟩
  have m0A : wA.heap[Mb]? = some (.cells #[.pointer a] 27 (0, 0)) := by rw [hMb]; exact (bA.block _ (by omega)).trans m0
  have m1A : wA.heap[T0]? = some (.cells #[.func (.func 142) #[] #[]] 149 (0, 0)) := by rw [hT0]; exact (bA.block _ (by omega)).trans m1
  have m2A : wA.heap[Lb]? = some (.cells #[.slice none 0 0] 22 (0, 0)) := by rw [hLb]; exact (bA.block _ (by omega)).trans m2
  have HZ : Hid (wA.heap.size = w.heap.size + 4 ∧ Mb = w.heap.size ∧ T0 = w.heap.size + 1 ∧ Lb = w.heap.size + 2 ∧ w1.heap.size = w.heap.size + 3) := hide ⟨by omega, hMb, hT0, hLb, s1⟩
  have hKlt : ∀ j, KA t w1.heap.size j → j < wA.heap.size ∧ j ≠ Lb := fun j hj => by
    rcases hj with rfl | hj
    · omega
    · have := ht.blk_lt hj; omega
  have HB : Hid (Below w.heap.size w wA ∧ Pm.In w t ∧ t.n ≤ 100000 ∧ xs = elsL t.list) := hide ⟨bWA, ht, hn, hxs⟩
  have HP := hide ha
  have HW1 := hide hw1
  have HM := hide (And.intro hMb (And.intro hT0 hLb))
  unfold Pm.mv at hAll ⊢
  rw [ha] at hAll ⊢
  have c0 : w1.cell? ⟨w.heap.size, 0, none⟩ = some (.pointer a) := (cell_of_row _ _ 0 _ 27 (0, 0) m0).trans rfl
  clear m0 m1 m2 b1 s1 sA bA bWA cL iA hw1 hwA hMb hT0 hLb ht hs hk hn hxs ha
  refine calls_marks Tryz.func141 rfl ?_
  simp only [Tryz.ntmps141, List.size_toArray, List.length_cons, List.length_nil, Nat.reduceAdd, Nat.reduceSub, Array.replicate_succ, Array.replicate_zero, List.push_toArray, List.append_toArray, List.nil_append, List.cons_append]
  go_upto_region 2 with fail
  rw [← HW1.out]
  go_wp2_with (go_at_call 57; refine hAll.mono ?_; rintro e w' ⟨rfl, hw'⟩; obtain rfl : wA = w' := hw'.symm; clear hw'; dsimp only)
  rw [← HM.out.2.2, ← HM.out.2.1, ← HM.out.1]
  clear hAll c0 HW1
  refine range_ib (Q := _) 146 enters146 _ xs encS _ hit rfl (fun _ _ => rfl) (fun j hj => (hKlt j hj).1) (fun j => j = Lb) (fun j e hj => (hKlt j hj).2 e) (fun j e => by have := HZ.out; omega)
    (fun B k W => k ≤ xs.length ∧ GIE wA Lb B (xs.take k) W) (fun _ _ _ => False)
    (fun B k W W' hB hi ho => ⟨hi.1, hi.2.own (by have := HZ.out; omega) hB ho⟩) (fun B c W W' hB hi ho => hi) (fun B W hb hB => ?h0) ?hround ?hdone (fun B c W hB hi => hi.elim)
  case h0 =>
    refine ⟨Nat.zero_le _, below_only hb, none, 0, ?_, ?_⟩
    · simp only [List.take_zero, List.map_nil, List.length_nil]
      exact (hb.block _ (by have := HZ.out; omega)).trans m2A
    · simp only [List.take_zero, List.map_nil, List.length_nil]
      exact Oe.nil _ _

  case hdone =>
    rintro B W hB ⟨-, hi⟩ hlt hk0
    rw [List.take_length, ← HPL.out] at hi
    obtain ⟨ao, c, hbx, hO⟩ := hi.box
    have lc : W.cell? ⟨Lb, 0, none⟩ = some (.slice ao (pl).length c) := (cell_of_row _ _ 0 _ 22 (0, 0) hbx).trans rfl
    have mb := (hi.only.block _ (by have := HZ.out; omega) (fun e => by have := HZ.out; have e' : Mb = Lb ∨ B ≤ Mb := e; omega)).trans m0A
    have mc : W.cell? ⟨Mb, 0, none⟩ = some (.pointer a) := (cell_of_row _ _ 0 _ 27 (0, 0) mb).trans rfl
    obtain ⟨bw, iw, hn, hxs⟩ := HB.out
    have iW : Pm.In W t := Pm.In.only hi.only (Pm.In.below bw iw) (fun p hp hd he => by
      have hblk : p < w.heap.size := iw.blk_lt (j := p) he
      have := HZ.out
      have hd' : p = Lb ∨ B ≤ p := hd
      omega)
    have bW : Below w.heap.size w W := Below.only bw hi.only bw.size (fun j e => by have := HZ.out; have e' : j = Lb ∨ B ≤ j := e; omega)
    have hlen : ∀ W', Below W.heap.size W W' → Calls Tryz.prog 21 #[.agg #[.pointer a]] W' fun e w' => e = .returned (.int .i64 (t.n : Nat)) ∧ Below W'.heap.size W' w' := fun W' hW => by
      have := Pm.mLen_any t W' (Pm.In.below hW iW)
      unfold Pm.mv at this
      rw [HP.out] at this
      exact this
    have hcmp : (mayL t.list = true ∧ (pl).length = t.n) ∨ (mayL t.list = false ∧ (pl).length = 0 ∧ 0 < t.n ∧ pl = []) := by
      by_cases hm : mayL t.list = true
      · left
        refine ⟨hm, ?_⟩
        rw [HPL.out, hxs, elsL, if_pos hm]
        simp [elsM, Pm.T.n_eq]
      · right
        have hm' : mayL t.list = false := by simpa using hm
        refine ⟨hm', ?_, ?_, ?_⟩
        · rw [HPL.out]; simp [hxs, elsL, hm]
        · rcases Nat.eq_zero_or_pos t.n with h0 | h0
          · exfalso
            rw [← Pm.T.n_eq, List.length_eq_zero_iff] at h0
            rw [h0] at hm'
            cases hm'
          · exact h0
        · rw [HPL.out]; simp [hxs, elsL, hm]
    have hp0 : (pl).length ≤ 100000 := by rw [HPL.out]; simpa using hxl
    have HF : Hid (∀ W', Below W.heap.size W W' → W'.heap[wA.heap.size]? = some (.deferred (some [])) ∧ Oe W' B (.slice ao (pl).length c) (pl) ∧ Below w.heap.size w W') := hide (fun W' hW => ⟨(hW.block _ hlt).trans hk0, hO.below hW, bW.trans (hW.mono bW.size)⟩)
    have fin : ∀ W' (u v : Value) (tmps : Array Value), Below W.heap.size W W' → tmps.getD 4 undef = u → tmps.getD 5 undef = v → (∃ ao' c', u = .slice ao' (pl).length c' ∧ Oe W' B (.slice ao' (pl).length c') (pl)) → v = .int .i64 ec →
        LeavesInM Fence.wide 6 Tryz.prog Tryz.f141 tmps (fun e w' => ∃ ao c, e = .returned (.tuple #[.slice ao (pl).length c, .int .i64 ec]) ∧ Oe w' w.heap.size (.slice ao (pl).length c) (pl) ∧ Below w.heap.size w w') ({ target := .collected wA.heap.size, args := #[] } :: []) .returning W' := fun W' u v tmps hW hu hv hx hy => by
      obtain ⟨f1, f2, f3⟩ := HF.out W' hW
      obtain ⟨ao', c', rfl, hO'⟩ := hx
      have o1 := only_putObj W' wA.heap.size (.deferred none)
      refine leave_mark f1 (leave_tmp2 rfl hu hv ⟨ao', c', by rw [hy], ?_, Below.only f3 o1 f3.size (fun j e => by have := HZ.out; have e' : j = wA.heap.size := e; omega)⟩)
      refine (hO'.only o1 (fun k hk' e => ?_)).lift (by have := HZ.out; omega)
      have := World.ownsRow.lt hO' k hk'
      have e' : k = wA.heap.size := e
      omega
    have HFI := hide fin
    have HON : Hid (∀ W', Below W.heap.size W W' → Oe W' B (.slice ao (pl).length c) (pl)) := hide (fun W' hW => hO.below hW)
    have qd : W.drew.cell? ⟨Lb, 0, none⟩ = some (.slice ao (pl).length c) ∧ W.drew.cell? ⟨Mb, 0, none⟩ = some (.pointer a) ∧ Hid (Below W.heap.size W W.drew) := ⟨lc, mc, hide (drew_below W)⟩
    clear hit hKlt m0A m1A m2A hi hbx hO lc mb mc bw iw hn hxs iW bW fin hk0 hlt HF
    obtain ⟨N, hN⟩ : ∃ N, N = (pl).length := ⟨_, rfl⟩
    rw [← hN] at hcmp hp0 qd
    have HN := hide hN
    clear hN
    go_upto_region 6 with fail
    refine wp_region_held_drew (S := fun w' => w'.cell? ⟨Lb, 0, none⟩ = some (.slice ao N c) ∧ w'.cell? ⟨Mb, 0, none⟩ = some (.pointer a) ∧ Hid (Below W.heap.size W w')) (by kernel_rfl) qd (fun hHeld => ?_)
    clear qd

    refine take_op (i := 0) (d := 20) (OP := Op.load 22 (Operand.tmp 6)) (T := 22) (v := ?vzz1) rfl rfl rfl rfl (by kernel_rfl) (by kernel_rfl) (by kernel_rfl) (fun _ _ _ h => h) (by rfl) ?hzz1 hHeld ?rzz1
    case hzz1 => (intro w' hSw; (try dsimp only at hSw); go_simp <;> with_reducible rfl)
    try simp only [Act.put, List.setIfInBounds_toArray, List.set_cons_zero, List.set_cons_succ]
    refine take_op (i := 1) (d := 21) (OP := Op.call { callee := Callee.builtin Builtin.len, args := #[Operand.tmp 20], argTypes := #[22] }) (T := 3) (v := ?vzz2) rfl rfl rfl rfl (by kernel_rfl) (by kernel_rfl) (by kernel_rfl) (fun _ _ _ h => h) (by rfl) ?hzz2 hHeld ?rzz2
    case hzz2 => (intro w' hSw; (try dsimp only at hSw); go_simp <;> with_reducible rfl)
    try simp only [Act.put, List.setIfInBounds_toArray, List.set_cons_zero, List.set_cons_succ]
    refine take_op (i := 2) (d := 22) (OP := Op.load 27 (Operand.tmp 2)) (T := 27) (v := ?vzz3) rfl rfl rfl rfl (by kernel_rfl) (by kernel_rfl) (by kernel_rfl) (fun _ _ _ h => h) (by rfl) ?hzz3 hHeld ?rzz3
    case hzz3 => (intro w' hSw; (try dsimp only at hSw); go_simp <;> with_reducible rfl)
    try simp only [Act.put, List.setIfInBounds_toArray, List.set_cons_zero, List.set_cons_succ]
    refine call_op (i := 3) (d := 23) (OP := Op.call { callee := Callee.value (Operand.func 21), args := #[Operand.tmp 22], argTypes := #[27] }) (T := 3) (f := 21) (args := #[.agg #[.pointer a]]) rfl rfl rfl rfl (by kernel_rfl) (by rfl) (by go_simp) ?_
    refine (hlen _ hHeld.2.2.out).mono ?_
    rintro e z1 ⟨rfl, bz⟩
    have qz : z1.cell? ⟨Lb, 0, none⟩ = some (.slice ao N c) ∧ z1.cell? ⟨Mb, 0, none⟩ = some (.pointer a) ∧ Hid (Below W.heap.size W z1) := ⟨cell_stays hHeld.1 bz, cell_stays hHeld.2.1 bz, hide (hHeld.2.2.out.trans (bz.mono hHeld.2.2.out.size))⟩
    refine ⟨_, rfl, qz, ?_⟩
    clear bz
    replace hHeld := qz
    clear qz
    try simp only [Act.put, List.setIfInBounds_toArray, List.set_cons_zero, List.set_cons_succ]
    refine take_op (i := 4) (d := 24) (OP := Op.binOp BinOp.lss 3 (Operand.tmp 21) (Operand.tmp 23) 3) (T := 4) (v := ?vzz4) rfl rfl rfl rfl (by kernel_rfl) (by kernel_rfl) (by kernel_rfl) (fun _ _ _ h => h) (by rfl) ?hzz4 hHeld ?rzz4
    case hzz4 => (intro w' hSw; (try dsimp only at hSw); go_simp <;> with_reducible rfl)
    try simp only [Act.put, List.setIfInBounds_toArray, List.set_cons_zero, List.set_cons_succ]
    refine wpAnyH_done (by kernel_rfl) ?_ _
    obtain ⟨lz, -, HBZ⟩ := hHeld
    clear hlen
    rcases hcmp with ⟨hm, hNn⟩ | ⟨hm, hN0, hn0, hnil⟩
    · have d1 : decide ((N : Int) < (t.n : Int)) = false := by simp; omega
      have d2 : ¬ (N : Int) < (t.n : Int) := by omega
      have HX := hide hm
      clear hm hNn
      go_wp2
      refine ret_lv ?_
      dsimp only
      refine HFI.out z1 (.slice ao N c) (.int .i64 0) _ HBZ.out ?_ ?_ ⟨ao, c, by rw [HN.out], HON.out z1 HBZ.out⟩ (by rw [HEC.out, HX.out]; rfl)
      · rfl
      · rfl
    · have d1 : decide ((N : Int) < (t.n : Int)) = true := by simp; omega
      have d2 : (N : Int) < (t.n : Int) := by omega
      have HX := hide (And.intro hm (And.intro hnil (hN0.symm.trans HN.out)))
      clear hm hN0 hn0 hnil
      go_wp2
      refine ret_lv ?_
      dsimp only
      refine HFI.out z1 (.slice none 0 0) (.int .i64 2) _ HBZ.out ?_ ?_ ⟨none, 0, by rw [← HX.out.2.2], by rw [← HX.out.2.2, HX.out.2.1]; exact Oe.nil _ _⟩ (by rw [HEC.out, HX.out.1]; rfl)
      · rfl
      · rfl
  case hround =>
    rintro B c ⟨s, x⟩ W hB hx ⟨hc, hi⟩ hSame hsz
    obtain ⟨sg, sr, sl, sn, si⟩ := s
    have hcl : c < xs.length := (List.getElem?_eq_some_iff.1 hx).1
    have htk : xs.take (c + 1) = xs.take c ++ [((sg, sr, sl, sn, si), x)] := by
      rw [List.take_add_one, hx]; rfl
    clear hit hKlt hSame hx
    dsimp only [encS, svT]
    gi_wp2
    obtain ⟨W1, hW1⟩ : ∃ W1, W1 = W.alloc (.cells #[.int .i64 sg, .int .i64 sr, .string sl, .int .i64 sn, .int .i64 si] 43) := ⟨_, rfl⟩
    have r1 := heap_alloc_new W (.cells #[.int .i64 sg, .int .i64 sr, .string sl, .int .i64 sn, .int .i64 si] 43)
    have b1 : Below W.heap.size W W1 := by rw [hW1]; exact (Below.refl _ W).alloc (Nat.le_refl _) _
    rw [← hW1] at r1 ⊢
    refine ⟨below_only b1, fun W2 ho2 => ?_⟩
    obtain ⟨ao, cp, hbx, hO⟩ := hi.box
    have hown : ∀ k, (Value.slice ao (xs.take c).length cp).ownBlock = some k → B ≤ k ∧ k < W.heap.size := fun k hk => World.ownsRow.lt hO k hk
    have hz := HZ.out
    have bx1 := (b1.block _ (Array.getElem?_eq_some_iff.1 hbx).1).trans hbx
    have bx2 := (ho2.block _ (Array.getElem?_eq_some_iff.1 bx1).1 (fun e => by have e' : Lb = wA.heap.size + 1 := e; omega)).trans bx1
    have r2 := (ho2.block _ (Array.getElem?_eq_some_iff.1 r1).1 (fun e => by have e' : W.heap.size = wA.heap.size + 1 := e; omega)).trans r1
    have hO2 : Oe W2 B (.slice ao (xs.take c).length cp) (xs.take c) := (hO.below b1).only ho2 (fun k hk e => by have := hown k hk; have e' : k = wA.heap.size + 1 := e; omega)
    have on2 : Only (fun j => j = Lb ∨ B ≤ j) wA W2 := (hi.only.next (below_only b1)).trans ho2 (fun j hj e => by have e' : j = wA.heap.size + 1 := e; omega)
    have t2 := (on2.block _ (by omega) (fun e => by have e' : T0 = Lb ∨ B ≤ T0 := e; omega)).trans m1A
    obtain ⟨Sb, hSb⟩ : ∃ q, q = W.heap.size := ⟨_, rfl⟩
    rw [← hSb] at r2 hown ⊢
    have hs2 : Sb < W2.heap.size := (Array.getElem?_eq_some_iff.1 r2).1
    have HS : Hid (B ≤ Sb ∧ Sb < W2.heap.size ∧ c < xs.length ∧ wA.heap.size + 2 ≤ B) := hide ⟨by omega, hs2, hcl, hB⟩
    have HX := hide (And.intro bx2 (And.intro hO2 (And.intro on2 (And.intro hown htk))))
    have qd : W2.drew.cell? ⟨T0, 0, none⟩ = some (.func (.func 142) #[] #[]) ∧ W2.drew.cell? ⟨Sb, 0, none⟩ = some (.int .i64 sg) ∧ W2.drew.cell? ⟨Sb, 1, none⟩ = some (.int .i64 sr) ∧ W2.drew.cell? ⟨Sb, 2, none⟩ = some (.string sl) ∧ W2.drew.cell? ⟨Sb, 3, none⟩ = some (.int .i64 sn) ∧ W2.drew.cell? ⟨Sb, 4, none⟩ = some (.int .i64 si) := ⟨(cell_of_row W2.drew _ 0 _ 149 (0, 0) t2).trans rfl, (cell_of_row W2.drew _ 0 _ 43 (0, 0) r2).trans rfl, (cell_of_row W2.drew _ 1 _ 43 (0, 0) r2).trans rfl, (cell_of_row W2.drew _ 2 _ 43 (0, 0) r2).trans rfl, (cell_of_row W2.drew _ 3 _ 43 (0, 0) r2).trans rfl, (cell_of_row W2.drew _ 4 _ 43 (0, 0) r2).trans rfl⟩
    have hT := fun W' => tell87 (sg, sr, sl, sn, si) x W'
    dsimp only [svT] at hT
    obtain ⟨N, hN⟩ : ∃ N, N = (xs.take c).length := ⟨_, rfl⟩
    have lc : W2.drew.cell? ⟨Lb, 0, none⟩ = some (.slice ao N cp) := by rw [hN]; exact (cell_of_row W2.drew _ 0 _ 22 (0, 0) bx2).trans rfl
    have HN := hide hN
    have HNB : Hid (N ≤ 100000) := hide (by rw [hN]; simp; omega)
    clear m0A m1A m2A hi hc hcl htk hsz r1 b1 hW1 ho2 hbx hO bx1 bx2 r2 hO2 on2 t2 hown hs2 hSb hN hz
    -- what an end of the round leaves
    have ends : ∀ w5 a' c' w7, Below W2.heap.size W2 w5 → Oe w7 B (.slice a' (N + 1) c') (xs.take c ++ [((sg, sr, sl, sn, si), x)]) → Only (fun k => (Value.slice ao N cp).ownBlock = some k) w5 w7 →
        (∀ y, (w7.setCell ⟨Lb, 0, none⟩ y).cell? ⟨T0, 0, none⟩ = w5.cell? ⟨T0, 0, none⟩ ∧ ∀ i, (w7.setCell ⟨Lb, 0, none⟩ y).cell? ⟨Sb, i, none⟩ = w5.cell? ⟨Sb, i, none⟩) ∧ w7.cell? ⟨T0, 0, none⟩ = w5.cell? ⟨T0, 0, none⟩ ∧ (∀ i, w7.cell? ⟨Sb, i, none⟩ = w5.cell? ⟨Sb, i, none⟩) ∧
        w7.cell? ⟨Lb, 0, none⟩ = some (.slice ao N cp) ∧ w7.frozen? ⟨Lb, 0, none⟩ = false ∧ Only (fun j => j = Lb ∨ B ≤ j) W2 (w7.setCell ⟨Lb, 0, none⟩ (.slice a' (N + 1) c')) ∧ (c + 1 ≤ xs.length ∧ GIE wA Lb B (xs.take (c + 1)) (w7.setCell ⟨Lb, 0, none⟩ (.slice a' (N + 1) c'))) := fun w5 a' c' w7 b5 hO7 ho7 => by
      obtain ⟨bx2, hO2, on2, hown, htk⟩ := HX.out
      have hz := HZ.out
      have hs := HS.out
      rw [← HN.out] at bx2 hown
      have hT7 : ∀ i, w7.cell? ⟨T0, i, none⟩ = w5.cell? ⟨T0, i, none⟩ := fun i => World.cell?_of_block (ho7.block T0 (by have := b5.size; have := on2.size; omega) (fun e => by have := hown T0 e; omega))
      have hS7 : ∀ i, w7.cell? ⟨Sb, i, none⟩ = w5.cell? ⟨Sb, i, none⟩ := fun i => World.cell?_of_block (ho7.block Sb (by have := b5.size; omega) (fun e => by have := hown Sb e; omega))
      have bx5 := (b5.block _ (Array.getElem?_eq_some_iff.1 bx2).1).trans bx2
      have bx7 := (ho7.block Lb (Array.getElem?_eq_some_iff.1 bx5).1 (fun e => by have := hown Lb e; omega)).trans bx5
      obtain ⟨s9, o9⟩ := set_one (i := 0) (.slice a' (N + 1) c') bx7
      have o57 : Only (fun j => j = Lb ∨ B ≤ j) W2 w7 := (below_only b5).next (ho7.mono (fun j _ e => .inr (hown j e).1))
      have o59 := o57.next (o9.mono (fun j _ e => .inl e))
      refine ⟨fun y => ?_, hT7 0, hS7, (cell_of_row _ _ 0 _ 22 (0, 0) bx7).trans rfl, frozen_of_row _ _ 0 _ 22 bx7, o59, by omega, on2.next o59, a', c', ?_, ?_⟩
      · obtain ⟨-, oy⟩ := set_one (i := 0) y bx7
        have h7 := (Array.getElem?_eq_some_iff.1 bx7).1
        refine ⟨(World.cell?_of_block (oy.block T0 (by have := b5.size; have := on2.size; have := ho7.size; omega) (fun e => by have e' : T0 = Lb := e; omega))).trans (hT7 0), fun i => (World.cell?_of_block (oy.block Sb (by have := b5.size; have := ho7.size; omega) (fun e => by have e' : Sb = Lb := e; omega))).trans (hS7 i)⟩
      · rw [htk, List.length_append, List.length_singleton, ← HN.out]
        simpa using s9
      · rw [htk, List.length_append, List.length_singleton, ← HN.out]
        exact hO7.only o9 (fun k hk e => by
          have := World.ownsRow.lt hO7 k hk
          have e' : k = Lb := e
          omega)
    have HE := hide ends
    have HO : Hid (∀ w5, Below W2.heap.size W2 w5 → Oe w5 B (.slice ao (xs.take c).length cp) (xs.take c)) := hide (fun w5 b5 => HX.out.2.1.below b5)
    clear ends HX HZ
    gi_wp2
    refine region_in (S := fun w' => w'.cell? ⟨T0, 0, none⟩ = some (.func (.func 142) #[] #[]) ∧ w'.cell? ⟨Sb, 0, none⟩ = some (.int .i64 sg) ∧ w'.cell? ⟨Sb, 1, none⟩ = some (.int .i64 sr) ∧ w'.cell? ⟨Sb, 2, none⟩ = some (.string sl) ∧ w'.cell? ⟨Sb, 3, none⟩ = some (.int .i64 sn) ∧ w'.cell? ⟨Sb, 4, none⟩ = some (.int .i64 si)) (by kernel_rfl) (by kernel_rfl) (by intro _ _ h; exact h) qd (fun hHeld => ?_)
    clear qd
    have b0 : Below W2.heap.size W2 W2.drew := drew_below W2
    refine take_op (i := 1) (d := 14) (OP := Op.load 149 (Operand.tmp 3)) (T := 149) (v := ?vzz5) rfl rfl rfl rfl (by kernel_rfl) (by kernel_rfl) (by kernel_rfl) (fun _ _ _ h => h) (by rfl) ?hzz5 hHeld ?rzz5
    case hzz5 => (intro w' hSw; (try dsimp only at hSw); go_simp <;> with_reducible rfl)
    try simp only [Act.put, List.setIfInBounds_toArray, List.set_cons_zero, List.set_cons_succ]
    refine take_op (i := 2) (d := 15) (OP := Op.load 43 (Operand.tmp 7)) (T := 43) (v := ?vzz6) rfl rfl rfl rfl (by kernel_rfl) (by kernel_rfl) (by kernel_rfl) (fun _ _ _ h => h) (by rfl) ?hzz6 hHeld ?rzz6
    case hzz6 => (intro w' hSw; (try dsimp only at hSw); go_simp <;> with_reducible rfl)
    try simp only [Act.put, List.setIfInBounds_toArray, List.set_cons_zero, List.set_cons_succ]
    refine take_op (i := 3) (d := 16) (OP := Op.move (Operand.tmp 8)) (T := 9) (v := ?vzz7) rfl rfl rfl rfl (by kernel_rfl) (by kernel_rfl) (by kernel_rfl) (fun _ _ _ h => h) (by rfl) ?hzz7 hHeld ?rzz7
    case hzz7 => (intro w' hSw; (try dsimp only at hSw); go_simp <;> with_reducible rfl)
    try simp only [Act.put, List.setIfInBounds_toArray, List.set_cons_zero, List.set_cons_succ]
    refine load_call_op (i := 0) (di := 13) (OPi := Op.load 22 (Operand.tmp 6)) (Ti := 22) (j := 4) (dj := 17) (OPj := Op.call { callee := Callee.value (Operand.tmp 14), args := #[Operand.tmp 15, Operand.tmp 16], argTypes := #[43, 9] }) (Tj := 53) (f := 142) (args := #[.agg #[.int .i64 sg, .int .i64 sr, .string sl, .int .i64 sn, .int .i64 si], .string x]) (u := .slice ao N cp) rfl rfl rfl rfl rfl rfl rfl rfl (by kernel_rfl) (by rfl) (by rfl) (by go_simp) (by go_simp) hHeld ?_ ?_
    · try simp only [Act.put, List.setIfInBounds_toArray, List.set_cons_zero, List.set_cons_succ]
      refine call_op (i := 4) (d := 17) (OP := Op.call { callee := Callee.value (Operand.tmp 14), args := #[Operand.tmp 15, Operand.tmp 16], argTypes := #[43, 9] }) (T := 53) (f := 142) (args := #[.agg #[.int .i64 sg, .int .i64 sr, .string sl, .int .i64 sn, .int .i64 si], .string x]) rfl rfl rfl rfl (by kernel_rfl) (by rfl) (by go_simp) ?_
      refine (hT _).mono ?_
      rintro e z4 ⟨rfl, b4⟩
      have h4 : z4.cell? ⟨T0, 0, none⟩ = some (.func (.func 142) #[] #[]) ∧ z4.cell? ⟨Sb, 0, none⟩ = some (.int .i64 sg) ∧ z4.cell? ⟨Sb, 1, none⟩ = some (.int .i64 sr) ∧ z4.cell? ⟨Sb, 2, none⟩ = some (.string sl) ∧ z4.cell? ⟨Sb, 3, none⟩ = some (.int .i64 sn) ∧ z4.cell? ⟨Sb, 4, none⟩ = some (.int .i64 si) := ⟨cell_stays hHeld.1 b4, cell_stays hHeld.2.1 b4, cell_stays hHeld.2.2.1 b4, cell_stays hHeld.2.2.2.1 b4, cell_stays hHeld.2.2.2.2.1 b4, cell_stays hHeld.2.2.2.2.2 b4⟩
      have lc4 := cell_stays lc b4
      have bb4 := b0.trans (b4.mono b0.size)
      refine ⟨_, rfl, h4, ?_⟩
      try simp only [Act.put, List.setIfInBounds_toArray, List.set_cons_zero, List.set_cons_succ]
      obtain ⟨z5, hz5⟩ : ∃ q, q = z4.alloc (.cells (encE ((sg, sr, sl, sn, si), x)).toArray 53) := ⟨_, rfl⟩
      have r5 := heap_alloc_new z4 (.cells (encE ((sg, sr, sl, sn, si), x)).toArray 53)
      rw [← hz5] at r5
      have b5 : Below z4.heap.size z4 z5 := by rw [hz5]; exact (Below.refl _ z4).alloc (Nat.le_refl _) _
      have h5 : z5.cell? ⟨T0, 0, none⟩ = some (.func (.func 142) #[] #[]) ∧ z5.cell? ⟨Sb, 0, none⟩ = some (.int .i64 sg) ∧ z5.cell? ⟨Sb, 1, none⟩ = some (.int .i64 sr) ∧ z5.cell? ⟨Sb, 2, none⟩ = some (.string sl) ∧ z5.cell? ⟨Sb, 3, none⟩ = some (.int .i64 sn) ∧ z5.cell? ⟨Sb, 4, none⟩ = some (.int .i64 si) := ⟨cell_stays h4.1 b5, cell_stays h4.2.1 b5, cell_stays h4.2.2.1 b5, cell_stays h4.2.2.2.1 b5, cell_stays h4.2.2.2.2.1 b5, cell_stays h4.2.2.2.2.2 b5⟩
      have bz5 := bb4.trans (b5.mono bb4.size)
      refine turn_op (i := 5) (d := 18) (OP := Op.buildSlice 22 1 #[(0, Operand.tmp 17)]) (T := 22) (v := .slice (some ⟨z4.heap.size, 0, none⟩) 1 1) (w' := z5) rfl rfl rfl rfl (by kernel_rfl) (by rfl) (by rw [hz5]; exact exec_bs53 rfl) h5 ?_
      try simp only [Act.put, List.setIfInBounds_toArray, List.set_cons_zero, List.set_cons_succ]
      obtain ⟨a', c', w7, hrun, hO7, ho7⟩ := push_Oe (y := ((sg, sr, sl, sn, si), x)) (HO.out z5 bz5) r5 (by rw [← HN.out]; have := HNB.out; omega) (by have := bz5.size; have := HS.out; omega)
      rw [← HN.out] at hrun hO7 ho7
      obtain ⟨e1, e2, e3, e4, e5, e6, e7⟩ := HE.out z5 a' c' w7 bz5 hO7 ho7
      refine turn_op (i := 6) (d := 19) (OP := Op.call { callee := Callee.builtin Builtin.append, args := #[Operand.tmp 13, Operand.tmp 18], argTypes := #[22, 22] }) (T := 22) (v := .slice a' (N + 1) c') (w' := w7) rfl rfl rfl rfl (by kernel_rfl) (by rfl) (exec_append rfl rfl hrun) ⟨e2.trans h5.1, (e3 0).trans h5.2.1, (e3 1).trans h5.2.2.1, (e3 2).trans h5.2.2.2.1, (e3 3).trans h5.2.2.2.2.1, (e3 4).trans h5.2.2.2.2.2⟩ ?_
      try simp only [Act.put, List.setIfInBounds_toArray, List.set_cons_zero, List.set_cons_succ]
      refine skip_op (i := 7) (OP := Op.store 22 (Operand.tmp 6) (Operand.tmp 19)) (T := 0) (w' := w7.setCell ⟨Lb, 0, none⟩ (.slice a' (N + 1) c')) rfl rfl rfl rfl (by kernel_rfl) (by rfl) (exec_st22 rfl rfl e4 e5) ⟨⟨((e1 _).1).trans h5.1, ((e1 _).2 0).trans h5.2.1, ((e1 _).2 1).trans h5.2.2.1, ((e1 _).2 2).trans h5.2.2.2.1, ((e1 _).2 3).trans h5.2.2.2.2.1, ((e1 _).2 4).trans h5.2.2.2.2.2⟩, ?_⟩
      try simp only [Act.put, List.setIfInBounds_toArray, List.set_cons_zero, List.set_cons_succ]
      refine wpAnyH_done (by kernel_rfl) ?_ _
      exact ⟨e6, e7⟩
    · refine (hT _).mono ?_
      rintro e z4 ⟨rfl, b4⟩
      have h4 : z4.cell? ⟨T0, 0, none⟩ = some (.func (.func 142) #[] #[]) ∧ z4.cell? ⟨Sb, 0, none⟩ = some (.int .i64 sg) ∧ z4.cell? ⟨Sb, 1, none⟩ = some (.int .i64 sr) ∧ z4.cell? ⟨Sb, 2, none⟩ = some (.string sl) ∧ z4.cell? ⟨Sb, 3, none⟩ = some (.int .i64 sn) ∧ z4.cell? ⟨Sb, 4, none⟩ = some (.int .i64 si) := ⟨cell_stays hHeld.1 b4, cell_stays hHeld.2.1 b4, cell_stays hHeld.2.2.1 b4, cell_stays hHeld.2.2.2.1 b4, cell_stays hHeld.2.2.2.2.1 b4, cell_stays hHeld.2.2.2.2.2 b4⟩
      have lc4 := cell_stays lc b4
      have bb4 := b0.trans (b4.mono b0.size)
      refine ⟨_, rfl, h4, ?_⟩
      try simp only [Act.put, List.setIfInBounds_toArray, List.set_cons_zero, List.set_cons_succ]
      obtain ⟨z5, hz5⟩ : ∃ q, q = z4.alloc (.cells (encE ((sg, sr, sl, sn, si), x)).toArray 53) := ⟨_, rfl⟩
      have r5 := heap_alloc_new z4 (.cells (encE ((sg, sr, sl, sn, si), x)).toArray 53)
      rw [← hz5] at r5
      have b5 : Below z4.heap.size z4 z5 := by rw [hz5]; exact (Below.refl _ z4).alloc (Nat.le_refl _) _
      have h5 : z5.cell? ⟨T0, 0, none⟩ = some (.func (.func 142) #[] #[]) ∧ z5.cell? ⟨Sb, 0, none⟩ = some (.int .i64 sg) ∧ z5.cell? ⟨Sb, 1, none⟩ = some (.int .i64 sr) ∧ z5.cell? ⟨Sb, 2, none⟩ = some (.string sl) ∧ z5.cell? ⟨Sb, 3, none⟩ = some (.int .i64 sn) ∧ z5.cell? ⟨Sb, 4, none⟩ = some (.int .i64 si) := ⟨cell_stays h4.1 b5, cell_stays h4.2.1 b5, cell_stays h4.2.2.1 b5, cell_stays h4.2.2.2.1 b5, cell_stays h4.2.2.2.2.1 b5, cell_stays h4.2.2.2.2.2 b5⟩
      have bz5 := bb4.trans (b5.mono bb4.size)
      have lc5 := cell_stays lc4 b5
      refine two_op (i := 0) (di := 13) (OPi := Op.load 22 (Operand.tmp 6)) (Ti := 22) (j := 5) (dj := 18) (OPj := Op.buildSlice 22 1 #[(0, Operand.tmp 17)]) (Tj := 22) (v := .slice ao N cp) (u := .slice (some ⟨z4.heap.size, 0, none⟩) 1 1) (w' := z5) rfl rfl rfl rfl rfl rfl rfl rfl (by kernel_rfl) (by rfl) (by rfl) (by go_simp) (by rw [hz5]; exact exec_bs53 rfl) h4 h5 ?_ ?_
      · try simp only [Act.put, List.setIfInBounds_toArray, List.set_cons_zero, List.set_cons_succ]
        refine turn_op (i := 5) (d := 18) (OP := Op.buildSlice 22 1 #[(0, Operand.tmp 17)]) (T := 22) (v := .slice (some ⟨z4.heap.size, 0, none⟩) 1 1) (w' := z5) rfl rfl rfl rfl (by kernel_rfl) (by rfl) (by rw [hz5]; exact exec_bs53 rfl) h5 ?_
        try simp only [Act.put, List.setIfInBounds_toArray, List.set_cons_zero, List.set_cons_succ]
        obtain ⟨a', c', w7, hrun, hO7, ho7⟩ := push_Oe (y := ((sg, sr, sl, sn, si), x)) (HO.out z5 bz5) r5 (by rw [← HN.out]; have := HNB.out; omega) (by have := bz5.size; have := HS.out; omega)
        rw [← HN.out] at hrun hO7 ho7
        obtain ⟨e1, e2, e3, e4, e5, e6, e7⟩ := HE.out z5 a' c' w7 bz5 hO7 ho7
        refine turn_op (i := 6) (d := 19) (OP := Op.call { callee := Callee.builtin Builtin.append, args := #[Operand.tmp 13, Operand.tmp 18], argTypes := #[22, 22] }) (T := 22) (v := .slice a' (N + 1) c') (w' := w7) rfl rfl rfl rfl (by kernel_rfl) (by rfl) (exec_append rfl rfl hrun) ⟨e2.trans h5.1, (e3 0).trans h5.2.1, (e3 1).trans h5.2.2.1, (e3 2).trans h5.2.2.2.1, (e3 3).trans h5.2.2.2.2.1, (e3 4).trans h5.2.2.2.2.2⟩ ?_
        try simp only [Act.put, List.setIfInBounds_toArray, List.set_cons_zero, List.set_cons_succ]
        refine skip_op (i := 7) (OP := Op.store 22 (Operand.tmp 6) (Operand.tmp 19)) (T := 0) (w' := w7.setCell ⟨Lb, 0, none⟩ (.slice a' (N + 1) c')) rfl rfl rfl rfl (by kernel_rfl) (by rfl) (exec_st22 rfl rfl e4 e5) ⟨⟨((e1 _).1).trans h5.1, ((e1 _).2 0).trans h5.2.1, ((e1 _).2 1).trans h5.2.2.1, ((e1 _).2 2).trans h5.2.2.2.1, ((e1 _).2 3).trans h5.2.2.2.2.1, ((e1 _).2 4).trans h5.2.2.2.2.2⟩, ?_⟩
        try simp only [Act.put, List.setIfInBounds_toArray, List.set_cons_zero, List.set_cons_succ]
        refine wpAnyH_done (by kernel_rfl) ?_ _
        exact ⟨e6, e7⟩
      · try simp only [Act.put, List.setIfInBounds_toArray, List.set_cons_zero, List.set_cons_succ]
        clear hz5
        refine turn_op (i := 0) (d := 13) (OP := Op.load 22 (Operand.tmp 6)) (T := 22) (v := .slice ao N cp) (w' := z5) rfl rfl rfl rfl (by kernel_rfl) (by rfl) (by go_simp) h5 ?_
        try simp only [Act.put, List.setIfInBounds_toArray, List.set_cons_zero, List.set_cons_succ]
        obtain ⟨a', c', w7, hrun, hO7, ho7⟩ := push_Oe (y := ((sg, sr, sl, sn, si), x)) (HO.out z5 bz5) r5 (by rw [← HN.out]; have := HNB.out; omega) (by have := bz5.size; have := HS.out; omega)
        rw [← HN.out] at hrun hO7 ho7
        obtain ⟨e1, e2, e3, e4, e5, e6, e7⟩ := HE.out z5 a' c' w7 bz5 hO7 ho7
        refine turn_op (i := 6) (d := 19) (OP := Op.call { callee := Callee.builtin Builtin.append, args := #[Operand.tmp 13, Operand.tmp 18], argTypes := #[22, 22] }) (T := 22) (v := .slice a' (N + 1) c') (w' := w7) rfl rfl rfl rfl (by kernel_rfl) (by rfl) (exec_append rfl rfl hrun) ⟨e2.trans h5.1, (e3 0).trans h5.2.1, (e3 1).trans h5.2.2.1, (e3 2).trans h5.2.2.2.1, (e3 3).trans h5.2.2.2.2.1, (e3 4).trans h5.2.2.2.2.2⟩ ?_
        try simp only [Act.put, List.setIfInBounds_toArray, List.set_cons_zero, List.set_cons_succ]
        refine skip_op (i := 7) (OP := Op.store 22 (Operand.tmp 6) (Operand.tmp 19)) (T := 0) (w' := w7.setCell ⟨Lb, 0, none⟩ (.slice a' (N + 1) c')) rfl rfl rfl rfl (by kernel_rfl) (by rfl) (exec_st22 rfl rfl e4 e5) ⟨⟨((e1 _).1).trans h5.1, ((e1 _).2 0).trans h5.2.1, ((e1 _).2 1).trans h5.2.2.1, ((e1 _).2 2).trans h5.2.2.2.1, ((e1 _).2 3).trans h5.2.2.2.2.1, ((e1 _).2 4).trans h5.2.2.2.2.2⟩, ?_⟩
        try simp only [Act.put, List.setIfInBounds_toArray, List.set_cons_zero, List.set_cons_succ]
        refine wpAnyH_done (by kernel_rfl) ?_ _
        exact ⟨e6, e7⟩
theorem Ot.lift {w : World} {B B' : Nat} {v : Value} {L : List ByteArray} (h : Ot w B v L) (hB : B' ≤ B) : Ot w B' v L := by
  rcases h with ⟨h1, h2⟩
  refine ⟨h1, ?_⟩
  rcases h2 with h2 | ⟨g, cap, cur, e, hb, r⟩
  · exact .inl h2
  · exact .inr ⟨g, cap, cur, e, Nat.le_trans hB hb, r⟩
/-- What stands between rounds. -/
structure GIS (wA : World) (Lb B : Nat) (p : List ByteArray) (W : World) : Prop where
  only : Only (fun j => j = Lb ∨ B ≤ j) wA W
  box : ∃ ao c, W.heap[Lb]? = some (.cells #[.slice ao p.length c] 63 (0, 0)) ∧ Ot W B (.slice ao p.length c) p
theorem GIS.own {wA : World} {Lb B : Nat} {p : List ByteArray} {W W' : World} (h : GIS wA Lb B p W) (hL : Lb < wA.heap.size) (_hB : wA.heap.size + 2 ≤ B) (ho : Only (fun j => wA.heap.size + 1 ≤ j ∧ j < B) W W') : GIS wA Lb B p W' := by
  obtain ⟨ao, c, hb, hO⟩ := h.box
  refine ⟨h.only.trans ho (fun j hj e => by have e' : wA.heap.size + 1 ≤ j ∧ j < B := e; omega), ao, c, (ho.block _ (Array.getElem?_eq_some_iff.1 hb).1 (fun e => by have e' : wA.heap.size + 1 ≤ Lb ∧ Lb < B := e; omega)).trans hb, hO.only ho (fun k hk e => by have := World.ownsRow.lt hO k hk; have e' : wA.heap.size + 1 ≤ k ∧ k < B := e; omega)⟩
set_option maxHeartbeats 8000000 in
set_option maxRecDepth 100000 in
theorem gathS_any (t : Pm.T) (w : World) (ht : Pm.In w t) (hs : Pm.Srt t.list) (hk : ∀ x ∈ t.list, x.1.size ≤ 9223372036854775807) (hn : t.n ≤ 100000) :
    Calls Tryz.prog 143 #[Pm.mv t, .func (.func 144) #[] #[]] w fun e w' => ∃ ao c, e = .returned (.tuple #[.slice ao ((elsL t.list).map Prod.snd).length c, .int .i64 (if mayL t.list then 0 else 2)]) ∧ Ot w' w.heap.size (.slice ao ((elsL t.list).map Prod.snd).length c) ((elsL t.list).map Prod.snd) ∧ Below w.heap.size w w' := by
  obtain ⟨a, ha⟩ := t.ptr_shape
  obtain ⟨w1, hw1⟩ : ∃ w1, w1 = ((w.alloc (.cells #[.pointer a] 27)).alloc (.cells #[.func (.func 144) #[] #[]] 151)).alloc (.cells #[.slice none 0 0] 63) := ⟨_, rfl⟩
  obtain ⟨m0, m1, m2, b1⟩ := new3r w (.cells #[.pointer a] 27) (.cells #[.func (.func 144) #[] #[]] 151) (.cells #[.slice none 0 0] 63)
  rw [← hw1] at m0 m1 m2 b1
  have s1 : w1.heap.size = w.heap.size + 3 := by rw [hw1]; simp
  have hAll := rAll_any t w1
  obtain ⟨wA, hwA⟩ : ∃ wA, wA = w1.alloc (.cells #[t.ptr] 27) := ⟨_, rfl⟩
  rw [← hwA] at hAll
  have sA : wA.heap.size = w1.heap.size + 1 := by rw [hwA]; simp
  have bA : Below w1.heap.size w1 wA := by rw [hwA]; exact (Below.refl _ w1).alloc (Nat.le_refl _) _
  have bWA : Below w.heap.size w wA := b1.trans (bA.mono b1.size)
  have cL : wA.cell? ⟨w1.heap.size, 0, none⟩ = some t.ptr := by rw [hwA]; exact (cell_of_row _ _ 0 _ 27 (0, 0) (heap_alloc_new w1 _)).trans rfl
  have iA : Pm.In wA t := Pm.In.below bWA ht
  have hit := iterAll t w1.heap.size wA iA hs hk cL
  obtain ⟨xs, hxs⟩ : ∃ xs, xs = elsL t.list := ⟨_, rfl⟩
  rw [← hxs] at hit ⊢
  obtain ⟨ec, hec⟩ : ∃ ec : Int, ec = (if mayL t.list then 0 else 2) := ⟨_, rfl⟩
  rw [← hec]
  have HEC := hide hec
  clear hec
  obtain ⟨pl, hpl⟩ : ∃ pl, pl = (xs).map Prod.snd := ⟨_, rfl⟩
  rw [← hpl]
  have HPL := hide hpl
  clear hpl
  have hxl : xs.length ≤ 100000 := by
    rw [hxs, elsL]
    split
    · rw [elsM, List.length_map, Pm.T.n_eq]; exact hn
    · simp
  obtain ⟨T0, hT0⟩ : ∃ q, q = w.heap.size + 1 := ⟨_, rfl⟩
  obtain ⟨Lb, hLb⟩ : ∃ q, q = w.heap.size + 1 + 1 := ⟨_, rfl⟩
  obtain ⟨Mb, hMb⟩ : ∃ q, q = w.heap.size := ⟨_, rfl⟩
  have m0A : wA.heap[Mb]? = some (.cells #[.pointer a] 27 (0, 0)) := by rw [hMb]; exact (bA.block _ (by omega)).trans m0
  have m1A : wA.heap[T0]? = some (.cells #[.func (.func 144) #[] #[]] 151 (0, 0)) := by rw [hT0]; exact (bA.block _ (by omega)).trans m1
  have m2A : wA.heap[Lb]? = some (.cells #[.slice none 0 0] 63 (0, 0)) := by rw [hLb]; exact (bA.block _ (by omega)).trans m2
  have HZ : Hid (wA.heap.size = w.heap.size + 4 ∧ Mb = w.heap.size ∧ T0 = w.heap.size + 1 ∧ Lb = w.heap.size + 2 ∧ w1.heap.size = w.heap.size + 3) := hide ⟨by omega, hMb, hT0, hLb, s1⟩
  have hKlt : ∀ j, KA t w1.heap.size j → j < wA.heap.size ∧ j ≠ Lb := fun j hj => by
    rcases hj with rfl | hj
    · omega
    · have := ht.blk_lt hj; omega
  have HB : Hid (Below w.heap.size w wA ∧ Pm.In w t ∧ t.n ≤ 100000 ∧ xs = elsL t.list) := hide ⟨bWA, ht, hn, hxs⟩
  have HP := hide ha
  have HW1 := hide hw1
  have HM := hide (And.intro hMb (And.intro hT0 hLb))
  unfold Pm.mv at hAll ⊢
  rw [ha] at hAll ⊢
  have c0 : w1.cell? ⟨w.heap.size, 0, none⟩ = some (.pointer a) := (cell_of_row _ _ 0 _ 27 (0, 0) m0).trans rfl
  clear m0 m1 m2 b1 s1 sA bA bWA cL iA hw1 hwA hMb hT0 hLb ht hs hk hn hxs ha
  refine calls_marks Tryz.func143 rfl ?_
  simp only [Tryz.ntmps143, List.size_toArray, List.length_cons, List.length_nil, Nat.reduceAdd, Nat.reduceSub, Array.replicate_succ, Array.replicate_zero, List.push_toArray, List.append_toArray, List.nil_append, List.cons_append]
  go_upto_region 2 with fail
  rw [← HW1.out]
  go_wp2_with (go_at_call 57; refine hAll.mono ?_; rintro e w' ⟨rfl, hw'⟩; obtain rfl : wA = w' := hw'.symm; clear hw'; dsimp only)
  rw [← HM.out.2.2, ← HM.out.2.1, ← HM.out.1]
  clear hAll c0 HW1
  refine range_ib (Q := _) 146 enters146 _ xs encS _ hit rfl (fun _ _ => rfl) (fun j hj => (hKlt j hj).1) (fun j => j = Lb) (fun j e hj => (hKlt j hj).2 e) (fun j e => by have := HZ.out; omega)
    (fun B k W => k ≤ xs.length ∧ GIS wA Lb B ((xs.take k).map Prod.snd) W) (fun _ _ _ => False)
    (fun B k W W' hB hi ho => ⟨hi.1, hi.2.own (by have := HZ.out; omega) hB ho⟩) (fun B c W W' hB hi ho => hi) (fun B W hb hB => ?h0) ?hround ?hdone (fun B c W hB hi => hi.elim)
  case h0 =>
    refine ⟨Nat.zero_le _, below_only hb, none, 0, ?_, ?_⟩
    · simp only [List.take_zero, List.map_nil, List.length_nil]
      exact (hb.block _ (by have := HZ.out; omega)).trans m2A
    · simp only [List.take_zero, List.map_nil, List.length_nil]
      exact Ot.nil _ _

  case hdone =>
    rintro B W hB ⟨-, hi⟩ hlt hk0
    rw [List.take_length, ← HPL.out] at hi
    obtain ⟨ao, c, hbx, hO⟩ := hi.box
    have lc : W.cell? ⟨Lb, 0, none⟩ = some (.slice ao (pl).length c) := (cell_of_row _ _ 0 _ 63 (0, 0) hbx).trans rfl
    have mb := (hi.only.block _ (by have := HZ.out; omega) (fun e => by have := HZ.out; have e' : Mb = Lb ∨ B ≤ Mb := e; omega)).trans m0A
    have mc : W.cell? ⟨Mb, 0, none⟩ = some (.pointer a) := (cell_of_row _ _ 0 _ 27 (0, 0) mb).trans rfl
    obtain ⟨bw, iw, hn, hxs⟩ := HB.out
    have iW : Pm.In W t := Pm.In.only hi.only (Pm.In.below bw iw) (fun p hp hd he => by
      have hblk : p < w.heap.size := iw.blk_lt (j := p) he
      have := HZ.out
      have hd' : p = Lb ∨ B ≤ p := hd
      omega)
    have bW : Below w.heap.size w W := Below.only bw hi.only bw.size (fun j e => by have := HZ.out; have e' : j = Lb ∨ B ≤ j := e; omega)
    have hlen : ∀ W', Below W.heap.size W W' → Calls Tryz.prog 21 #[.agg #[.pointer a]] W' fun e w' => e = .returned (.int .i64 (t.n : Nat)) ∧ Below W'.heap.size W' w' := fun W' hW => by
      have := Pm.mLen_any t W' (Pm.In.below hW iW)
      unfold Pm.mv at this
      rw [HP.out] at this
      exact this
    have hcmp : (mayL t.list = true ∧ (pl).length = t.n) ∨ (mayL t.list = false ∧ (pl).length = 0 ∧ 0 < t.n ∧ pl = []) := by
      by_cases hm : mayL t.list = true
      · left
        refine ⟨hm, ?_⟩
        rw [HPL.out, hxs, elsL, if_pos hm]
        simp [elsM, Pm.T.n_eq]
      · right
        have hm' : mayL t.list = false := by simpa using hm
        refine ⟨hm', ?_, ?_, ?_⟩
        · rw [HPL.out]; simp [hxs, elsL, hm]
        · rcases Nat.eq_zero_or_pos t.n with h0 | h0
          · exfalso
            rw [← Pm.T.n_eq, List.length_eq_zero_iff] at h0
            rw [h0] at hm'
            cases hm'
          · exact h0
        · rw [HPL.out]; simp [hxs, elsL, hm]
    have hp0 : (pl).length ≤ 100000 := by rw [HPL.out]; simpa using hxl
    have HF : Hid (∀ W', Below W.heap.size W W' → W'.heap[wA.heap.size]? = some (.deferred (some [])) ∧ Ot W' B (.slice ao (pl).length c) (pl) ∧ Below w.heap.size w W') := hide (fun W' hW => ⟨(hW.block _ hlt).trans hk0, hO.below hW, bW.trans (hW.mono bW.size)⟩)
    have fin : ∀ W' (u v : Value) (tmps : Array Value), Below W.heap.size W W' → tmps.getD 4 undef = u → tmps.getD 5 undef = v → (∃ ao' c', u = .slice ao' (pl).length c' ∧ Ot W' B (.slice ao' (pl).length c') (pl)) → v = .int .i64 ec →
        LeavesInM Fence.wide 6 Tryz.prog Tryz.f143 tmps (fun e w' => ∃ ao c, e = .returned (.tuple #[.slice ao (pl).length c, .int .i64 ec]) ∧ Ot w' w.heap.size (.slice ao (pl).length c) (pl) ∧ Below w.heap.size w w') ({ target := .collected wA.heap.size, args := #[] } :: []) .returning W' := fun W' u v tmps hW hu hv hx hy => by
      obtain ⟨f1, f2, f3⟩ := HF.out W' hW
      obtain ⟨ao', c', rfl, hO'⟩ := hx
      have o1 := only_putObj W' wA.heap.size (.deferred none)
      refine leave_mark f1 (leave_tmp2 rfl hu hv ⟨ao', c', by rw [hy], ?_, Below.only f3 o1 f3.size (fun j e => by have := HZ.out; have e' : j = wA.heap.size := e; omega)⟩)
      refine (hO'.only o1 (fun k hk' e => ?_)).lift (by have := HZ.out; omega)
      have := World.ownsRow.lt hO' k hk'
      have e' : k = wA.heap.size := e
      omega
    have HFI := hide fin
    have HON : Hid (∀ W', Below W.heap.size W W' → Ot W' B (.slice ao (pl).length c) (pl)) := hide (fun W' hW => hO.below hW)
    have qd : W.drew.cell? ⟨Lb, 0, none⟩ = some (.slice ao (pl).length c) ∧ W.drew.cell? ⟨Mb, 0, none⟩ = some (.pointer a) ∧ Hid (Below W.heap.size W W.drew) := ⟨lc, mc, hide (drew_below W)⟩
    clear hit hKlt m0A m1A m2A hi hbx hO lc mb mc bw iw hn hxs iW bW fin hk0 hlt HF
    obtain ⟨N, hN⟩ : ∃ N, N = (pl).length := ⟨_, rfl⟩
    rw [← hN] at hcmp hp0 qd
    have HN := hide hN
    clear hN
    go_upto_region 6 with fail
    refine wp_region_held_drew (S := fun w' => w'.cell? ⟨Lb, 0, none⟩ = some (.slice ao N c) ∧ w'.cell? ⟨Mb, 0, none⟩ = some (.pointer a) ∧ Hid (Below W.heap.size W w')) (by kernel_rfl) qd (fun hHeld => ?_)
    clear qd

    refine take_op (i := 0) (d := 20) (OP := Op.load 63 (Operand.tmp 6)) (T := 63) (v := ?vzz8) rfl rfl rfl rfl (by kernel_rfl) (by kernel_rfl) (by kernel_rfl) (fun _ _ _ h => h) (by rfl) ?hzz8 hHeld ?rzz8
    case hzz8 => (intro w' hSw; (try dsimp only at hSw); go_simp <;> with_reducible rfl)
    try simp only [Act.put, List.setIfInBounds_toArray, List.set_cons_zero, List.set_cons_succ]
    refine take_op (i := 1) (d := 21) (OP := Op.call { callee := Callee.builtin Builtin.len, args := #[Operand.tmp 20], argTypes := #[63] }) (T := 3) (v := ?vzz9) rfl rfl rfl rfl (by kernel_rfl) (by kernel_rfl) (by kernel_rfl) (fun _ _ _ h => h) (by rfl) ?hzz9 hHeld ?rzz9
    case hzz9 => (intro w' hSw; (try dsimp only at hSw); go_simp <;> with_reducible rfl)
    try simp only [Act.put, List.setIfInBounds_toArray, List.set_cons_zero, List.set_cons_succ]
    refine take_op (i := 2) (d := 22) (OP := Op.load 27 (Operand.tmp 2)) (T := 27) (v := ?vzz10) rfl rfl rfl rfl (by kernel_rfl) (by kernel_rfl) (by kernel_rfl) (fun _ _ _ h => h) (by rfl) ?hzz10 hHeld ?rzz10
    case hzz10 => (intro w' hSw; (try dsimp only at hSw); go_simp <;> with_reducible rfl)
    try simp only [Act.put, List.setIfInBounds_toArray, List.set_cons_zero, List.set_cons_succ]
    refine call_op (i := 3) (d := 23) (OP := Op.call { callee := Callee.value (Operand.func 21), args := #[Operand.tmp 22], argTypes := #[27] }) (T := 3) (f := 21) (args := #[.agg #[.pointer a]]) rfl rfl rfl rfl (by kernel_rfl) (by rfl) (by go_simp) ?_
    refine (hlen _ hHeld.2.2.out).mono ?_
    rintro e z1 ⟨rfl, bz⟩
    have qz : z1.cell? ⟨Lb, 0, none⟩ = some (.slice ao N c) ∧ z1.cell? ⟨Mb, 0, none⟩ = some (.pointer a) ∧ Hid (Below W.heap.size W z1) := ⟨cell_stays hHeld.1 bz, cell_stays hHeld.2.1 bz, hide (hHeld.2.2.out.trans (bz.mono hHeld.2.2.out.size))⟩
    refine ⟨_, rfl, qz, ?_⟩
    clear bz
    replace hHeld := qz
    clear qz
    try simp only [Act.put, List.setIfInBounds_toArray, List.set_cons_zero, List.set_cons_succ]
    refine take_op (i := 4) (d := 24) (OP := Op.binOp BinOp.lss 3 (Operand.tmp 21) (Operand.tmp 23) 3) (T := 4) (v := ?vzz11) rfl rfl rfl rfl (by kernel_rfl) (by kernel_rfl) (by kernel_rfl) (fun _ _ _ h => h) (by rfl) ?hzz11 hHeld ?rzz11
    case hzz11 => (intro w' hSw; (try dsimp only at hSw); go_simp <;> with_reducible rfl)
    try simp only [Act.put, List.setIfInBounds_toArray, List.set_cons_zero, List.set_cons_succ]
    refine wpAnyH_done (by kernel_rfl) ?_ _
    obtain ⟨lz, -, HBZ⟩ := hHeld
    clear hlen
    rcases hcmp with ⟨hm, hNn⟩ | ⟨hm, hN0, hn0, hnil⟩
    · have d1 : decide ((N : Int) < (t.n : Int)) = false := by simp; omega
      have d2 : ¬ (N : Int) < (t.n : Int) := by omega
      have HX := hide hm
      clear hm hNn
      go_wp2
      refine ret_lv ?_
      dsimp only
      refine HFI.out z1 (.slice ao N c) (.int .i64 0) _ HBZ.out ?_ ?_ ⟨ao, c, by rw [HN.out], HON.out z1 HBZ.out⟩ (by rw [HEC.out, HX.out]; rfl)
      · rfl
      · rfl
    · have d1 : decide ((N : Int) < (t.n : Int)) = true := by simp; omega
      have d2 : (N : Int) < (t.n : Int) := by omega
      have HX := hide (And.intro hm (And.intro hnil (hN0.symm.trans HN.out)))
      clear hm hN0 hn0 hnil
      go_wp2
      refine ret_lv ?_
      dsimp only
      refine HFI.out z1 (.slice none 0 0) (.int .i64 2) _ HBZ.out ?_ ?_ ⟨none, 0, by rw [← HX.out.2.2], by rw [← HX.out.2.2, HX.out.2.1]; exact Ot.nil _ _⟩ (by rw [HEC.out, HX.out.1]; rfl)
      · rfl
      · rfl
  case hround =>
    rintro B c ⟨s, x⟩ W hB hx ⟨hc, hi⟩ hSame hsz
    obtain ⟨sg, sr, sl, sn, si⟩ := s
    have hcl : c < xs.length := (List.getElem?_eq_some_iff.1 hx).1
    have htk : xs.take (c + 1) = xs.take c ++ [((sg, sr, sl, sn, si), x)] := by
      rw [List.take_add_one, hx]; rfl
    clear hit hKlt hSame hx
    dsimp only [encS, svT]
    gi_wp2
    obtain ⟨W1, hW1⟩ : ∃ W1, W1 = W.alloc (.cells #[.int .i64 sg, .int .i64 sr, .string sl, .int .i64 sn, .int .i64 si] 43) := ⟨_, rfl⟩
    have r1 := heap_alloc_new W (.cells #[.int .i64 sg, .int .i64 sr, .string sl, .int .i64 sn, .int .i64 si] 43)
    have b1 : Below W.heap.size W W1 := by rw [hW1]; exact (Below.refl _ W).alloc (Nat.le_refl _) _
    rw [← hW1] at r1 ⊢
    refine ⟨below_only b1, fun W2 ho2 => ?_⟩
    obtain ⟨ao, cp, hbx, hO⟩ := hi.box
    have hown : ∀ k, (Value.slice ao ((xs.take c).map Prod.snd).length cp).ownBlock = some k → B ≤ k ∧ k < W.heap.size := fun k hk => World.ownsRow.lt hO k hk
    have hz := HZ.out
    have bx1 := (b1.block _ (Array.getElem?_eq_some_iff.1 hbx).1).trans hbx
    have bx2 := (ho2.block _ (Array.getElem?_eq_some_iff.1 bx1).1 (fun e => by have e' : Lb = wA.heap.size + 1 := e; omega)).trans bx1
    have r2 := (ho2.block _ (Array.getElem?_eq_some_iff.1 r1).1 (fun e => by have e' : W.heap.size = wA.heap.size + 1 := e; omega)).trans r1
    have hO2 : Ot W2 B (.slice ao ((xs.take c).map Prod.snd).length cp) ((xs.take c).map Prod.snd) := (hO.below b1).only ho2 (fun k hk e => by have := hown k hk; have e' : k = wA.heap.size + 1 := e; omega)
    have on2 : Only (fun j => j = Lb ∨ B ≤ j) wA W2 := (hi.only.next (below_only b1)).trans ho2 (fun j hj e => by have e' : j = wA.heap.size + 1 := e; omega)
    have t2 := (on2.block _ (by omega) (fun e => by have e' : T0 = Lb ∨ B ≤ T0 := e; omega)).trans m1A
    obtain ⟨Sb, hSb⟩ : ∃ q, q = W.heap.size := ⟨_, rfl⟩
    rw [← hSb] at r2 hown ⊢
    have hs2 : Sb < W2.heap.size := (Array.getElem?_eq_some_iff.1 r2).1
    have HS : Hid (B ≤ Sb ∧ Sb < W2.heap.size ∧ c < xs.length ∧ wA.heap.size + 2 ≤ B) := hide ⟨by omega, hs2, hcl, hB⟩
    have HX := hide (And.intro bx2 (And.intro hO2 (And.intro on2 (And.intro hown htk))))
    have qd : W2.drew.cell? ⟨T0, 0, none⟩ = some (.func (.func 144) #[] #[]) ∧ W2.drew.cell? ⟨Sb, 0, none⟩ = some (.int .i64 sg) ∧ W2.drew.cell? ⟨Sb, 1, none⟩ = some (.int .i64 sr) ∧ W2.drew.cell? ⟨Sb, 2, none⟩ = some (.string sl) ∧ W2.drew.cell? ⟨Sb, 3, none⟩ = some (.int .i64 sn) ∧ W2.drew.cell? ⟨Sb, 4, none⟩ = some (.int .i64 si) := ⟨(cell_of_row W2.drew _ 0 _ 151 (0, 0) t2).trans rfl, (cell_of_row W2.drew _ 0 _ 43 (0, 0) r2).trans rfl, (cell_of_row W2.drew _ 1 _ 43 (0, 0) r2).trans rfl, (cell_of_row W2.drew _ 2 _ 43 (0, 0) r2).trans rfl, (cell_of_row W2.drew _ 3 _ 43 (0, 0) r2).trans rfl, (cell_of_row W2.drew _ 4 _ 43 (0, 0) r2).trans rfl⟩
    have hT := fun W' => tell89 (sg, sr, sl, sn, si) x W'
    dsimp only [svT] at hT
    obtain ⟨N, hN⟩ : ∃ N, N = ((xs.take c).map Prod.snd).length := ⟨_, rfl⟩
    have lc : W2.drew.cell? ⟨Lb, 0, none⟩ = some (.slice ao N cp) := by rw [hN]; exact (cell_of_row W2.drew _ 0 _ 63 (0, 0) bx2).trans rfl
    have HN := hide hN
    have HNB : Hid (N ≤ 100000) := hide (by rw [hN]; simp; omega)
    clear m0A m1A m2A hi hc hcl htk hsz r1 b1 hW1 ho2 hbx hO bx1 bx2 r2 hO2 on2 t2 hown hs2 hSb hN hz
    -- what an end of the round leaves
    have ends : ∀ w5 a' c' w7, Below W2.heap.size W2 w5 → Ot w7 B (.slice a' (N + 1) c') ((xs.take c).map Prod.snd ++ [x]) → Only (fun k => (Value.slice ao N cp).ownBlock = some k) w5 w7 →
        (∀ y, (w7.setCell ⟨Lb, 0, none⟩ y).cell? ⟨T0, 0, none⟩ = w5.cell? ⟨T0, 0, none⟩ ∧ ∀ i, (w7.setCell ⟨Lb, 0, none⟩ y).cell? ⟨Sb, i, none⟩ = w5.cell? ⟨Sb, i, none⟩) ∧ w7.cell? ⟨T0, 0, none⟩ = w5.cell? ⟨T0, 0, none⟩ ∧ (∀ i, w7.cell? ⟨Sb, i, none⟩ = w5.cell? ⟨Sb, i, none⟩) ∧
        w7.cell? ⟨Lb, 0, none⟩ = some (.slice ao N cp) ∧ w7.frozen? ⟨Lb, 0, none⟩ = false ∧ Only (fun j => j = Lb ∨ B ≤ j) W2 (w7.setCell ⟨Lb, 0, none⟩ (.slice a' (N + 1) c')) ∧ (c + 1 ≤ xs.length ∧ GIS wA Lb B ((xs.take (c + 1)).map Prod.snd) (w7.setCell ⟨Lb, 0, none⟩ (.slice a' (N + 1) c'))) := fun w5 a' c' w7 b5 hO7 ho7 => by
      obtain ⟨bx2, hO2, on2, hown, htk⟩ := HX.out
      have hz := HZ.out
      have hs := HS.out
      rw [← HN.out] at bx2 hown
      have hT7 : ∀ i, w7.cell? ⟨T0, i, none⟩ = w5.cell? ⟨T0, i, none⟩ := fun i => World.cell?_of_block (ho7.block T0 (by have := b5.size; have := on2.size; omega) (fun e => by have := hown T0 e; omega))
      have hS7 : ∀ i, w7.cell? ⟨Sb, i, none⟩ = w5.cell? ⟨Sb, i, none⟩ := fun i => World.cell?_of_block (ho7.block Sb (by have := b5.size; omega) (fun e => by have := hown Sb e; omega))
      have bx5 := (b5.block _ (Array.getElem?_eq_some_iff.1 bx2).1).trans bx2
      have bx7 := (ho7.block Lb (Array.getElem?_eq_some_iff.1 bx5).1 (fun e => by have := hown Lb e; omega)).trans bx5
      obtain ⟨s9, o9⟩ := set_one (i := 0) (.slice a' (N + 1) c') bx7
      have o57 : Only (fun j => j = Lb ∨ B ≤ j) W2 w7 := (below_only b5).next (ho7.mono (fun j _ e => .inr (hown j e).1))
      have o59 := o57.next (o9.mono (fun j _ e => .inl e))
      refine ⟨fun y => ?_, hT7 0, hS7, (cell_of_row _ _ 0 _ 63 (0, 0) bx7).trans rfl, frozen_of_row _ _ 0 _ 63 bx7, o59, by omega, on2.next o59, a', c', ?_, ?_⟩
      · obtain ⟨-, oy⟩ := set_one (i := 0) y bx7
        have h7 := (Array.getElem?_eq_some_iff.1 bx7).1
        refine ⟨(World.cell?_of_block (oy.block T0 (by have := b5.size; have := on2.size; have := ho7.size; omega) (fun e => by have e' : T0 = Lb := e; omega))).trans (hT7 0), fun i => (World.cell?_of_block (oy.block Sb (by have := b5.size; have := ho7.size; omega) (fun e => by have e' : Sb = Lb := e; omega))).trans (hS7 i)⟩
      · rw [htk, List.map_append, List.length_append, List.map_cons, List.map_nil, List.length_singleton, ← HN.out]
        simpa using s9
      · rw [htk, List.map_append, List.length_append, List.map_cons, List.map_nil, List.length_singleton, ← HN.out]
        exact hO7.only o9 (fun k hk e => by
          have := World.ownsRow.lt hO7 k hk
          have e' : k = Lb := e
          omega)
    have HE := hide ends
    have HO : Hid (∀ w5, Below W2.heap.size W2 w5 → Ot w5 B (.slice ao ((xs.take c).map Prod.snd).length cp) ((xs.take c).map Prod.snd)) := hide (fun w5 b5 => HX.out.2.1.below b5)
    clear ends HX HZ
    gi_wp2
    refine region_in (S := fun w' => w'.cell? ⟨T0, 0, none⟩ = some (.func (.func 144) #[] #[]) ∧ w'.cell? ⟨Sb, 0, none⟩ = some (.int .i64 sg) ∧ w'.cell? ⟨Sb, 1, none⟩ = some (.int .i64 sr) ∧ w'.cell? ⟨Sb, 2, none⟩ = some (.string sl) ∧ w'.cell? ⟨Sb, 3, none⟩ = some (.int .i64 sn) ∧ w'.cell? ⟨Sb, 4, none⟩ = some (.int .i64 si)) (by kernel_rfl) (by kernel_rfl) (by intro _ _ h; exact h) qd (fun hHeld => ?_)
    clear qd
    have b0 : Below W2.heap.size W2 W2.drew := drew_below W2
    refine take_op (i := 1) (d := 14) (OP := Op.load 151 (Operand.tmp 3)) (T := 151) (v := ?vzz12) rfl rfl rfl rfl (by kernel_rfl) (by kernel_rfl) (by kernel_rfl) (fun _ _ _ h => h) (by rfl) ?hzz12 hHeld ?rzz12
    case hzz12 => (intro w' hSw; (try dsimp only at hSw); go_simp <;> with_reducible rfl)
    try simp only [Act.put, List.setIfInBounds_toArray, List.set_cons_zero, List.set_cons_succ]
    refine take_op (i := 2) (d := 15) (OP := Op.load 43 (Operand.tmp 7)) (T := 43) (v := ?vzz13) rfl rfl rfl rfl (by kernel_rfl) (by kernel_rfl) (by kernel_rfl) (fun _ _ _ h => h) (by rfl) ?hzz13 hHeld ?rzz13
    case hzz13 => (intro w' hSw; (try dsimp only at hSw); go_simp <;> with_reducible rfl)
    try simp only [Act.put, List.setIfInBounds_toArray, List.set_cons_zero, List.set_cons_succ]
    refine take_op (i := 3) (d := 16) (OP := Op.move (Operand.tmp 8)) (T := 9) (v := ?vzz14) rfl rfl rfl rfl (by kernel_rfl) (by kernel_rfl) (by kernel_rfl) (fun _ _ _ h => h) (by rfl) ?hzz14 hHeld ?rzz14
    case hzz14 => (intro w' hSw; (try dsimp only at hSw); go_simp <;> with_reducible rfl)
    try simp only [Act.put, List.setIfInBounds_toArray, List.set_cons_zero, List.set_cons_succ]
    refine load_call_op (i := 0) (di := 13) (OPi := Op.load 63 (Operand.tmp 6)) (Ti := 63) (j := 4) (dj := 17) (OPj := Op.call { callee := Callee.value (Operand.tmp 14), args := #[Operand.tmp 15, Operand.tmp 16], argTypes := #[43, 9] }) (Tj := 9) (f := 144) (args := #[.agg #[.int .i64 sg, .int .i64 sr, .string sl, .int .i64 sn, .int .i64 si], .string x]) (u := .slice ao N cp) rfl rfl rfl rfl rfl rfl rfl rfl (by kernel_rfl) (by rfl) (by rfl) (by go_simp) (by go_simp) hHeld ?_ ?_
    · try simp only [Act.put, List.setIfInBounds_toArray, List.set_cons_zero, List.set_cons_succ]
      refine call_op (i := 4) (d := 17) (OP := Op.call { callee := Callee.value (Operand.tmp 14), args := #[Operand.tmp 15, Operand.tmp 16], argTypes := #[43, 9] }) (T := 9) (f := 144) (args := #[.agg #[.int .i64 sg, .int .i64 sr, .string sl, .int .i64 sn, .int .i64 si], .string x]) rfl rfl rfl rfl (by kernel_rfl) (by rfl) (by go_simp) ?_
      refine (hT _).mono ?_
      rintro e z4 ⟨rfl, b4⟩
      have h4 : z4.cell? ⟨T0, 0, none⟩ = some (.func (.func 144) #[] #[]) ∧ z4.cell? ⟨Sb, 0, none⟩ = some (.int .i64 sg) ∧ z4.cell? ⟨Sb, 1, none⟩ = some (.int .i64 sr) ∧ z4.cell? ⟨Sb, 2, none⟩ = some (.string sl) ∧ z4.cell? ⟨Sb, 3, none⟩ = some (.int .i64 sn) ∧ z4.cell? ⟨Sb, 4, none⟩ = some (.int .i64 si) := ⟨cell_stays hHeld.1 b4, cell_stays hHeld.2.1 b4, cell_stays hHeld.2.2.1 b4, cell_stays hHeld.2.2.2.1 b4, cell_stays hHeld.2.2.2.2.1 b4, cell_stays hHeld.2.2.2.2.2 b4⟩
      have lc4 := cell_stays lc b4
      have bb4 := b0.trans (b4.mono b0.size)
      refine ⟨_, rfl, h4, ?_⟩
      try simp only [Act.put, List.setIfInBounds_toArray, List.set_cons_zero, List.set_cons_succ]
      obtain ⟨z5, hz5⟩ : ∃ q, q = z4.alloc (.cells #[.string x] 9) := ⟨_, rfl⟩
      have r5 := heap_alloc_new z4 (.cells #[.string x] 9)
      rw [← hz5] at r5
      have b5 : Below z4.heap.size z4 z5 := by rw [hz5]; exact (Below.refl _ z4).alloc (Nat.le_refl _) _
      have h5 : z5.cell? ⟨T0, 0, none⟩ = some (.func (.func 144) #[] #[]) ∧ z5.cell? ⟨Sb, 0, none⟩ = some (.int .i64 sg) ∧ z5.cell? ⟨Sb, 1, none⟩ = some (.int .i64 sr) ∧ z5.cell? ⟨Sb, 2, none⟩ = some (.string sl) ∧ z5.cell? ⟨Sb, 3, none⟩ = some (.int .i64 sn) ∧ z5.cell? ⟨Sb, 4, none⟩ = some (.int .i64 si) := ⟨cell_stays h4.1 b5, cell_stays h4.2.1 b5, cell_stays h4.2.2.1 b5, cell_stays h4.2.2.2.1 b5, cell_stays h4.2.2.2.2.1 b5, cell_stays h4.2.2.2.2.2 b5⟩
      have bz5 := bb4.trans (b5.mono bb4.size)
      refine turn_op (i := 5) (d := 18) (OP := Op.buildSlice 63 1 #[(0, Operand.tmp 17)]) (T := 63) (v := .slice (some ⟨z4.heap.size, 0, none⟩) 1 1) (w' := z5) rfl rfl rfl rfl (by kernel_rfl) (by rfl) (by rw [hz5]; exact exec_bs9 rfl) h5 ?_
      try simp only [Act.put, List.setIfInBounds_toArray, List.set_cons_zero, List.set_cons_succ]
      obtain ⟨a', c', w7, hrun, hO7, ho7⟩ := push_Ot (y := x) (HO.out z5 bz5) r5 (by rw [← HN.out]; have := HNB.out; omega) (by have := bz5.size; have := HS.out; omega)
      rw [← HN.out] at hrun hO7 ho7
      obtain ⟨e1, e2, e3, e4, e5, e6, e7⟩ := HE.out z5 a' c' w7 bz5 hO7 ho7
      refine turn_op (i := 6) (d := 19) (OP := Op.call { callee := Callee.builtin Builtin.append, args := #[Operand.tmp 13, Operand.tmp 18], argTypes := #[63, 63] }) (T := 63) (v := .slice a' (N + 1) c') (w' := w7) rfl rfl rfl rfl (by kernel_rfl) (by rfl) (exec_append rfl rfl hrun) ⟨e2.trans h5.1, (e3 0).trans h5.2.1, (e3 1).trans h5.2.2.1, (e3 2).trans h5.2.2.2.1, (e3 3).trans h5.2.2.2.2.1, (e3 4).trans h5.2.2.2.2.2⟩ ?_
      try simp only [Act.put, List.setIfInBounds_toArray, List.set_cons_zero, List.set_cons_succ]
      refine skip_op (i := 7) (OP := Op.store 63 (Operand.tmp 6) (Operand.tmp 19)) (T := 0) (w' := w7.setCell ⟨Lb, 0, none⟩ (.slice a' (N + 1) c')) rfl rfl rfl rfl (by kernel_rfl) (by rfl) (exec_st63 rfl rfl e4 e5) ⟨⟨((e1 _).1).trans h5.1, ((e1 _).2 0).trans h5.2.1, ((e1 _).2 1).trans h5.2.2.1, ((e1 _).2 2).trans h5.2.2.2.1, ((e1 _).2 3).trans h5.2.2.2.2.1, ((e1 _).2 4).trans h5.2.2.2.2.2⟩, ?_⟩
      try simp only [Act.put, List.setIfInBounds_toArray, List.set_cons_zero, List.set_cons_succ]
      refine wpAnyH_done (by kernel_rfl) ?_ _
      exact ⟨e6, e7⟩
    · refine (hT _).mono ?_
      rintro e z4 ⟨rfl, b4⟩
      have h4 : z4.cell? ⟨T0, 0, none⟩ = some (.func (.func 144) #[] #[]) ∧ z4.cell? ⟨Sb, 0, none⟩ = some (.int .i64 sg) ∧ z4.cell? ⟨Sb, 1, none⟩ = some (.int .i64 sr) ∧ z4.cell? ⟨Sb, 2, none⟩ = some (.string sl) ∧ z4.cell? ⟨Sb, 3, none⟩ = some (.int .i64 sn) ∧ z4.cell? ⟨Sb, 4, none⟩ = some (.int .i64 si) := ⟨cell_stays hHeld.1 b4, cell_stays hHeld.2.1 b4, cell_stays hHeld.2.2.1 b4, cell_stays hHeld.2.2.2.1 b4, cell_stays hHeld.2.2.2.2.1 b4, cell_stays hHeld.2.2.2.2.2 b4⟩
      have lc4 := cell_stays lc b4
      have bb4 := b0.trans (b4.mono b0.size)
      refine ⟨_, rfl, h4, ?_⟩
      try simp only [Act.put, List.setIfInBounds_toArray, List.set_cons_zero, List.set_cons_succ]
      obtain ⟨z5, hz5⟩ : ∃ q, q = z4.alloc (.cells #[.string x] 9) := ⟨_, rfl⟩
      have r5 := heap_alloc_new z4 (.cells #[.string x] 9)
      rw [← hz5] at r5
      have b5 : Below z4.heap.size z4 z5 := by rw [hz5]; exact (Below.refl _ z4).alloc (Nat.le_refl _) _
      have h5 : z5.cell? ⟨T0, 0, none⟩ = some (.func (.func 144) #[] #[]) ∧ z5.cell? ⟨Sb, 0, none⟩ = some (.int .i64 sg) ∧ z5.cell? ⟨Sb, 1, none⟩ = some (.int .i64 sr) ∧ z5.cell? ⟨Sb, 2, none⟩ = some (.string sl) ∧ z5.cell? ⟨Sb, 3, none⟩ = some (.int .i64 sn) ∧ z5.cell? ⟨Sb, 4, none⟩ = some (.int .i64 si) := ⟨cell_stays h4.1 b5, cell_stays h4.2.1 b5, cell_stays h4.2.2.1 b5, cell_stays h4.2.2.2.1 b5, cell_stays h4.2.2.2.2.1 b5, cell_stays h4.2.2.2.2.2 b5⟩
      have bz5 := bb4.trans (b5.mono bb4.size)
      have lc5 := cell_stays lc4 b5
      refine two_op (i := 0) (di := 13) (OPi := Op.load 63 (Operand.tmp 6)) (Ti := 63) (j := 5) (dj := 18) (OPj := Op.buildSlice 63 1 #[(0, Operand.tmp 17)]) (Tj := 63) (v := .slice ao N cp) (u := .slice (some ⟨z4.heap.size, 0, none⟩) 1 1) (w' := z5) rfl rfl rfl rfl rfl rfl rfl rfl (by kernel_rfl) (by rfl) (by rfl) (by go_simp) (by rw [hz5]; exact exec_bs9 rfl) h4 h5 ?_ ?_
      · try simp only [Act.put, List.setIfInBounds_toArray, List.set_cons_zero, List.set_cons_succ]
        refine turn_op (i := 5) (d := 18) (OP := Op.buildSlice 63 1 #[(0, Operand.tmp 17)]) (T := 63) (v := .slice (some ⟨z4.heap.size, 0, none⟩) 1 1) (w' := z5) rfl rfl rfl rfl (by kernel_rfl) (by rfl) (by rw [hz5]; exact exec_bs9 rfl) h5 ?_
        try simp only [Act.put, List.setIfInBounds_toArray, List.set_cons_zero, List.set_cons_succ]
        obtain ⟨a', c', w7, hrun, hO7, ho7⟩ := push_Ot (y := x) (HO.out z5 bz5) r5 (by rw [← HN.out]; have := HNB.out; omega) (by have := bz5.size; have := HS.out; omega)
        rw [← HN.out] at hrun hO7 ho7
        obtain ⟨e1, e2, e3, e4, e5, e6, e7⟩ := HE.out z5 a' c' w7 bz5 hO7 ho7
        refine turn_op (i := 6) (d := 19) (OP := Op.call { callee := Callee.builtin Builtin.append, args := #[Operand.tmp 13, Operand.tmp 18], argTypes := #[63, 63] }) (T := 63) (v := .slice a' (N + 1) c') (w' := w7) rfl rfl rfl rfl (by kernel_rfl) (by rfl) (exec_append rfl rfl hrun) ⟨e2.trans h5.1, (e3 0).trans h5.2.1, (e3 1).trans h5.2.2.1, (e3 2).trans h5.2.2.2.1, (e3 3).trans h5.2.2.2.2.1, (e3 4).trans h5.2.2.2.2.2⟩ ?_
        try simp only [Act.put, List.setIfInBounds_toArray, List.set_cons_zero, List.set_cons_succ]
        refine skip_op (i := 7) (OP := Op.store 63 (Operand.tmp 6) (Operand.tmp 19)) (T := 0) (w' := w7.setCell ⟨Lb, 0, none⟩ (.slice a' (N + 1) c')) rfl rfl rfl rfl (by kernel_rfl) (by rfl) (exec_st63 rfl rfl e4 e5) ⟨⟨((e1 _).1).trans h5.1, ((e1 _).2 0).trans h5.2.1, ((e1 _).2 1).trans h5.2.2.1, ((e1 _).2 2).trans h5.2.2.2.1, ((e1 _).2 3).trans h5.2.2.2.2.1, ((e1 _).2 4).trans h5.2.2.2.2.2⟩, ?_⟩
        try simp only [Act.put, List.setIfInBounds_toArray, List.set_cons_zero, List.set_cons_succ]
        refine wpAnyH_done (by kernel_rfl) ?_ _
        exact ⟨e6, e7⟩
      · try simp only [Act.put, List.setIfInBounds_toArray, List.set_cons_zero, List.set_cons_succ]
        clear hz5
        refine turn_op (i := 0) (d := 13) (OP := Op.load 63 (Operand.tmp 6)) (T := 63) (v := .slice ao N cp) (w' := z5) rfl rfl rfl rfl (by kernel_rfl) (by rfl) (by go_simp) h5 ?_
        try simp only [Act.put, List.setIfInBounds_toArray, List.set_cons_zero, List.set_cons_succ]
        obtain ⟨a', c', w7, hrun, hO7, ho7⟩ := push_Ot (y := x) (HO.out z5 bz5) r5 (by rw [← HN.out]; have := HNB.out; omega) (by have := bz5.size; have := HS.out; omega)
        rw [← HN.out] at hrun hO7 ho7
        obtain ⟨e1, e2, e3, e4, e5, e6, e7⟩ := HE.out z5 a' c' w7 bz5 hO7 ho7
        refine turn_op (i := 6) (d := 19) (OP := Op.call { callee := Callee.builtin Builtin.append, args := #[Operand.tmp 13, Operand.tmp 18], argTypes := #[63, 63] }) (T := 63) (v := .slice a' (N + 1) c') (w' := w7) rfl rfl rfl rfl (by kernel_rfl) (by rfl) (exec_append rfl rfl hrun) ⟨e2.trans h5.1, (e3 0).trans h5.2.1, (e3 1).trans h5.2.2.1, (e3 2).trans h5.2.2.2.1, (e3 3).trans h5.2.2.2.2.1, (e3 4).trans h5.2.2.2.2.2⟩ ?_
        try simp only [Act.put, List.setIfInBounds_toArray, List.set_cons_zero, List.set_cons_succ]
        refine skip_op (i := 7) (OP := Op.store 63 (Operand.tmp 6) (Operand.tmp 19)) (T := 0) (w' := w7.setCell ⟨Lb, 0, none⟩ (.slice a' (N + 1) c')) rfl rfl rfl rfl (by kernel_rfl) (by rfl) (exec_st63 rfl rfl e4 e5) ⟨⟨((e1 _).1).trans h5.1, ((e1 _).2 0).trans h5.2.1, ((e1 _).2 1).trans h5.2.2.1, ((e1 _).2 2).trans h5.2.2.2.1, ((e1 _).2 3).trans h5.2.2.2.2.1, ((e1 _).2 4).trans h5.2.2.2.2.2⟩, ?_⟩
        try simp only [Act.put, List.setIfInBounds_toArray, List.set_cons_zero, List.set_cons_succ]
        refine wpAnyH_done (by kernel_rfl) ?_ _
        exact ⟨e6, e7⟩

theorem rElements_any (t : Pm.T) (w : World) (ht : Pm.In w t) (hs : Pm.Srt t.list) (hk : ∀ x ∈ t.list, x.1.size ≤ 9223372036854775807) (hn : t.n ≤ 100000) :
    Calls Tryz.prog 51 #[Pm.mv t] w fun e w' => ∃ ao c, e = .returned (.tuple #[.slice ao (elsL t.list).length c, .int .i64 (if mayL t.list then 0 else 2)]) ∧ Oe w' w.heap.size (.slice ao (elsL t.list).length c) (elsL t.list) ∧ Below w.heap.size w w' := by
  obtain ⟨a, ha⟩ := t.ptr_shape
  have hb : Below w.heap.size w (w.alloc (.cells #[t.ptr] 27)) := (Below.refl _ w).alloc (Nat.le_refl _) _
  have hg := gathE_any t _ (Pm.In.below hb ht) hs hk hn
  have HB := hide hb
  clear hb
  obtain ⟨N, hN⟩ : ∃ N, N = (elsL t.list).length := ⟨_, rfl⟩
  obtain ⟨ec, hec⟩ : ∃ ec : Int, ec = (if mayL t.list then 0 else 2) := ⟨_, rfl⟩
  rw [← hN, ← hec] at hg ⊢
  generalize elsL t.list = L at *
  clear hN hec
  unfold Pm.mv at hg ⊢
  rw [ha] at hg HB ⊢
  clear ht hs hk hn ha
  go_enter Tryz.func51, Tryz.ntmps51
  go_wp2_with (go_at_call 141; refine hg.mono ?_; rintro e w1 ⟨ao, c, rfl, hO, b1⟩; have H1 := hide (And.intro hO b1); clear hO b1; dsimp only)
  go_ret2
  have b0 := HB.out
  refine ⟨ao, c, rfl, H1.out.1.lift b0.size, b0.trans (H1.out.2.mono b0.size)⟩
theorem rTexts_any (t : Pm.T) (w : World) (ht : Pm.In w t) (hs : Pm.Srt t.list) (hk : ∀ x ∈ t.list, x.1.size ≤ 9223372036854775807) (hn : t.n ≤ 100000) :
    Calls Tryz.prog 52 #[Pm.mv t] w fun e w' => ∃ ao c, e = .returned (.tuple #[.slice ao ((elsL t.list).map Prod.snd).length c, .int .i64 (if mayL t.list then 0 else 2)]) ∧ Ot w' w.heap.size (.slice ao ((elsL t.list).map Prod.snd).length c) ((elsL t.list).map Prod.snd) ∧ Below w.heap.size w w' := by
  obtain ⟨a, ha⟩ := t.ptr_shape
  have hb : Below w.heap.size w (w.alloc (.cells #[t.ptr] 27)) := (Below.refl _ w).alloc (Nat.le_refl _) _
  have hg := gathS_any t _ (Pm.In.below hb ht) hs hk hn
  have HB := hide hb
  clear hb
  obtain ⟨N, hN⟩ : ∃ N, N = ((elsL t.list).map Prod.snd).length := ⟨_, rfl⟩
  obtain ⟨ec, hec⟩ : ∃ ec : Int, ec = (if mayL t.list then 0 else 2) := ⟨_, rfl⟩
  rw [← hN, ← hec] at hg ⊢
  generalize (elsL t.list).map Prod.snd = L at *
  clear hN hec
  unfold Pm.mv at hg ⊢
  rw [ha] at hg HB ⊢
  clear ht hs hk hn ha
  go_enter Tryz.func52, Tryz.ntmps52
  go_wp2_with (go_at_call 143; refine hg.mono ?_; rintro e w1 ⟨ao, c, rfl, hO, b1⟩; have H1 := hide (And.intro hO b1); clear hO b1; dsimp only)
  go_ret2
  have b0 := HB.out
  refine ⟨ao, c, rfl, H1.out.1.lift b0.size, b0.trans (H1.out.2.mono b0.size)⟩

end Go.Proofs.YtkkpdgfllnbigaaGreat
