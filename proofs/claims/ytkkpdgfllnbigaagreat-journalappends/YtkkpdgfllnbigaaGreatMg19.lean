/-
  journal: its entries and its texts (97, 101).
  journal: Append (90), as queue's Push.
-/
import Derived.Test.YtkkpdgfllnbigaaGreatMg18
import Derived.Test.YtkkpdgfllnbigaaGreatJoC
import Derived.Test.YtkkpdgfllnbigaaGreatMg15
namespace Go.Proofs.YtkkpdgfllnbigaaGreat.Jo
open Go.RowKit Go.Shelf
set_option linter.unusedSimpArgs false
attribute [local go_sem] Oper.semAt_some

theorem sinL_zero (l : List Kv) : sinL l zS = elsL l := by
  have h1 : frK zS = ⟨#[]⟩ := by unfold frK; rw [if_pos rfl]
  have h2 : frM zS = true := by unfold frM; rw [decide_eq_true rfl]; rfl
  unfold sinL elsL
  rw [h1, h2, Pm.pos_empty, List.drop_zero, Bool.true_and]
set_option maxHeartbeats 8000000 in
set_option maxRecDepth 100000 in
theorem gathQ122 (t : Pm.T) (w : World) (ht : Pm.In w t) (hs : Pm.Srt t.list) (hk : ∀ x ∈ t.list, x.1.size ≤ 9223372036854775807) (hn : t.n ≤ 100000) :
    Calls Tryz.prog 157 #[Pm.mv t, .func (.func 158) #[] #[]] w fun e w' => ∃ ao c, e = .returned (.tuple #[.slice ao (elsL t.list).length c, .int .i64 (if mayL t.list then 0 else 2)]) ∧ Oe w' w.heap.size (.slice ao (elsL t.list).length c) (elsL t.list) ∧ Below w.heap.size w w' := by
  obtain ⟨a, ha⟩ := t.ptr_shape
  obtain ⟨w1, hw1⟩ : ∃ w1, w1 = ((w.alloc (.cells #[.pointer a] 27)).alloc (.cells #[.func (.func 158) #[] #[]] 149)).alloc (.cells #[.slice none 0 0] 22) := ⟨_, rfl⟩
  obtain ⟨m0, m1, m2, b1⟩ := new3r w (.cells #[.pointer a] 27) (.cells #[.func (.func 158) #[] #[]] 149) (.cells #[.slice none 0 0] 22)
  rw [← hw1] at m0 m1 m2 b1
  have s1 : w1.heap.size = w.heap.size + 3 := by rw [hw1]; simp
  have hAll := since105 t zS w1
  obtain ⟨wA, hwA⟩ : ∃ wA, wA = (w1.alloc (.cells #[t.ptr] 27)).alloc (.cells #[.int .i64 0, .int .i64 0, .string ⟨#[]⟩, .int .i64 0, .int .i64 0] 43) := ⟨_, rfl⟩
  simp only [zS] at hAll
  rw [← hwA] at hAll
  have sA : wA.heap.size = w1.heap.size + 2 := by rw [hwA]; simp
  have bA : Below w1.heap.size w1 wA := by rw [hwA]; exact ((Below.refl _ w1).alloc (Nat.le_refl _) _).alloc (by simp) _
  have bWA : Below w.heap.size w wA := b1.trans (bA.mono b1.size)
  have cL : wA.cell? ⟨w1.heap.size, 0, none⟩ = some t.ptr := by rw [hwA]; exact (cell_of_row _ _ 0 _ 27 (0, 0) (new2 w1 _ _).1).trans rfl
  have cS : wA.heap[w1.heap.size + 1]? = some (.cells #[.int .i64 0, .int .i64 0, .string ⟨#[]⟩, .int .i64 0, .int .i64 0] 43 (0, 0)) := by rw [hwA]; exact (new2 w1 _ _).2
  have iA : Pm.In wA t := Pm.In.below bWA ht
  obtain ⟨Tb, hT0⟩ : ∃ q, q = w.heap.size + 1 := ⟨_, rfl⟩
  obtain ⟨Lb, hLb⟩ : ∃ q, q = w.heap.size + 1 + 1 := ⟨_, rfl⟩
  obtain ⟨Mb, hMb⟩ : ∃ q, q = w.heap.size := ⟨_, rfl⟩
  have hit := iterC198 t w1.heap.size (w1.heap.size + 1) Lb Tb zS wA iA hs hk cL cS
  obtain ⟨xs, hxs⟩ : ∃ xs, xs = elsL t.list := ⟨_, rfl⟩
  rw [sinL_zero, ← hxs] at hit
  rw [← hxs]
  have hxl : xs.length ≤ 100000 := by
    rw [hxs, elsL]
    split
    · rw [elsM, List.length_map, Pm.T.n_eq]; exact hn
    · simp
  have m0A : wA.heap[Mb]? = some (.cells #[.pointer a] 27 (0, 0)) := by rw [hMb]; exact (bA.block _ (by omega)).trans m0
  have m1A : wA.heap[Tb]? = some (.cells #[.func (.func 158) #[] #[]] 149 (0, 0)) := by rw [hT0]; exact (bA.block _ (by omega)).trans m1
  have m2A : wA.heap[Lb]? = some (.cells #[.slice none 0 0] 22 (0, 0)) := by rw [hLb]; exact (bA.block _ (by omega)).trans m2
  have HZ : Hid (wA.heap.size = w.heap.size + 5 ∧ Mb = w.heap.size ∧ Tb = w.heap.size + 1 ∧ Lb = w.heap.size + 2 ∧ w1.heap.size = w.heap.size + 3) := hide ⟨by omega, hMb, hT0, hLb, s1⟩
  have hKlt : ∀ j, KS t w1.heap.size (w1.heap.size + 1) j → j < wA.heap.size ∧ j ≠ Lb := fun j hj => by
    rcases hj with rfl | rfl | hj
    · omega
    · omega
    · have := ht.blk_lt hj; omega
  have hgo := hit (fun j => j = Lb) (fun B k W => k ≤ xs.length ∧ GIE wA Lb B ((xs.take k)) W) wA (fun j _ => rfl) (Nat.le_refl _) (fun j e hj => (hKlt j hj).2 e) (fun j e => by have := HZ.out; have e' : j = Lb := e; omega)
    (fun B c W1 W2 hB hi ho => by
      obtain ⟨h1, h2⟩ := hi
      obtain ⟨ao, c', hb, hO⟩ := h2.box
      have hz := HZ.out
      exact ⟨h1, h2.only.trans ho (fun j hj e => by have e' : wA.heap.size ≤ j ∧ j < B := e; omega), ao, c', (ho.block _ (gI hb).1 (fun e => by have e' : wA.heap.size ≤ Lb ∧ Lb < B := e; omega)).trans hb, hO.only ho (fun k hk e => by have := World.ownsRow.lt hO k hk; have e' : wA.heap.size ≤ k ∧ k < B := e; omega)⟩)
    (fun B c x W1 hB hx hi _ hsz => by
      obtain ⟨h1, h2⟩ := hi
      obtain ⟨ao, c', hb, hO⟩ := h2.box
      have hz := HZ.out
      have htk : (xs.take (c + 1)) = (xs.take c) ++ [x] := by rw [List.take_add_one, hx]; rfl
      have tb := (h2.only.block _ (gI m1A).1 (fun e => by have e' : Tb = Lb ∨ B ≤ Tb := e; omega)).trans m1A
      refine (gath159 x.1 x.2 _ hb tb hO (by omega) (by omega) (by omega) hsz (by simp; omega)).mono ?_
      rintro e W5 ⟨he, ho, a', c2, hb5, hO5⟩
      refine ⟨he, ho, by have := (List.getElem?_eq_some_iff.1 hx).1; omega, h2.only.next ho, a', c2, ?_, ?_⟩
      · rw [htk, List.length_append, List.length_singleton]; exact hb5
      · rw [htk, List.length_append, List.length_singleton]; exact hO5)
    (fun B W1 hb hB => by
      have hz := HZ.out
      refine ⟨Nat.zero_le _, below_only hb, none, 0, ?_, ?_⟩
      · simp only [List.take_zero, List.map_nil, List.length_nil]
        exact (hb.block _ (by omega)).trans m2A
      · simp only [List.take_zero, List.map_nil, List.length_nil]
        exact Oe.nil _ _)
  obtain ⟨ec, hec⟩ : ∃ ec : Int, ec = (if mayL t.list then 0 else 2) := ⟨_, rfl⟩
  rw [← hec]
  have HEC := hide hec
  clear hec
  obtain ⟨pl, hpl⟩ : ∃ pl, pl = xs := ⟨_, rfl⟩
  rw [← hpl]
  have HPL := hide hpl
  have HB : Hid (Below w.heap.size w wA ∧ Pm.In w t ∧ t.n ≤ 100000 ∧ xs = elsL t.list ∧ wA.heap[Mb]? = some (.cells #[.pointer a] 27 (0, 0))) := hide ⟨bWA, ht, hn, hxs, m0A⟩
  have HP := hide ha
  have HW1 := hide hw1
  have HM := hide (And.intro hMb (And.intro hT0 hLb))
  have HXL := hide hxl
  unfold Pm.mv at hAll ⊢
  dsimp only [svT, sv] at hAll
  rw [ha] at hAll ⊢
  have c0 : w1.cell? ⟨Mb, 0, none⟩ = some (.pointer a) := by rw [hMb]; exact (cell_of_row _ _ 0 _ 27 (0, 0) m0).trans rfl
  clear m0 m1 m2 b1 s1 sA bA bWA cL cS iA hw1 hwA hMb hT0 hLb ht hs hk hn hxs ha hit hKlt m0A m1A m2A hpl hxl
  go_enter Tryz.func157, Tryz.ntmps157
  go_upto_region 3 with fail
  rw [← HW1.out]
  rw [← HM.out.2.2, ← HM.out.2.1, ← HM.out.1]
  go_upto_region 4 with (first
    | (go_at_call 105; refine hAll.mono ?_; rintro e w' ⟨rfl, hw'⟩; obtain rfl : wA = w' := hw'.symm; clear hw'; dsimp only)
    | (go_at_call 162; refine hgo.mono ?_; rintro e W ⟨⟨vv, rfl⟩, B, hB, hle, hi⟩; have HI := hide (And.intro hB hi); clear hB hle hi; dsimp only))
  obtain ⟨hB, hi⟩ := HI.out
  rw [List.take_length, ← HPL.out] at hi
  obtain ⟨ao, c, hbx, hO⟩ := hi.box
  have lc : W.cell? ⟨Lb, 0, none⟩ = some (.slice ao (pl).length c) := (cell_of_row _ _ 0 _ 22 (0, 0) hbx).trans rfl
  obtain ⟨bw, iw, hn, hxs, m0A⟩ := HB.out
  have mb := (hi.only.block _ (by have := HZ.out; omega) (fun e => by have := HZ.out; have e' : Mb = Lb ∨ B ≤ Mb := e; omega)).trans m0A
  have mc : W.cell? ⟨Mb, 0, none⟩ = some (.pointer a) := (cell_of_row _ _ 0 _ 27 (0, 0) mb).trans rfl
  have iW : Pm.In W t := Pm.In.only hi.only (Pm.In.below bw iw) (fun p hp hd he => by
    have hblk : p < w.heap.size := iw.blk_lt (j := p) he
    have := HZ.out
    have hd' : p = Lb ∨ B ≤ p := hd
    omega)
  have bW : Below w.heap.size w W := Below.only bw hi.only bw.size (fun j e => by have := HZ.out; have e' : j = Lb ∨ B ≤ j := e; omega)
  have hlen : ∀ W', Below W.heap.size W W' → Calls Tryz.prog 21 #[.agg #[.pointer a]] W' fun e w' => e = .returned (.int .i64 (t.n : Nat)) ∧ Below W'.heap.size W' w' := fun W' hW => by
    have := Pm.mLen_any t W' (Pm.In.below hW iW)
    unfold Pm.mv at this
    rw [HP.out] at this
    exact this
  have hcmp : (mayL t.list = true ∧ (pl).length = t.n) ∨ (mayL t.list = false ∧ (pl).length = 0 ∧ 0 < t.n ∧ pl = []) := by
    by_cases hm : mayL t.list = true
    · left
      refine ⟨hm, ?_⟩
      rw [HPL.out, hxs, elsL, if_pos hm]
      simp [elsM, Pm.T.n_eq]
    · right
      have hm' : mayL t.list = false := by simpa using hm
      refine ⟨hm', ?_, ?_, ?_⟩
      · rw [HPL.out]; simp [hxs, elsL, hm]
      · rcases Nat.eq_zero_or_pos t.n with h0 | h0
        · exfalso
          rw [← Pm.T.n_eq, List.length_eq_zero_iff] at h0
          rw [h0] at hm'
          cases hm'
        · exact h0
      · rw [HPL.out]; simp [hxs, elsL, hm]
  have hlow : w.heap.size ≤ B := by have := HZ.out; omega
  have HF : Hid (∀ W', Below W.heap.size W W' → Oe W' w.heap.size (.slice ao (pl).length c) (pl) ∧ Below w.heap.size w W') := hide (fun W' hW => ⟨(hO.below hW).lift hlow, bW.trans (hW.mono bW.size)⟩)
  have qd : W.drew.cell? ⟨Lb, 0, none⟩ = some (.slice ao (pl).length c) ∧ W.drew.cell? ⟨Mb, 0, none⟩ = some (.pointer a) ∧ Hid (Below W.heap.size W W.drew) := ⟨lc, mc, hide (drew_below W)⟩
  clear hi hbx hO lc mb mc bw iw hn hxs iW bW hlow m0A hB hgo hAll c0
  obtain ⟨N, hN⟩ : ∃ N, N = (pl).length := ⟨_, rfl⟩
  rw [← hN] at hcmp qd
  have HN := hide hN
  rw [← hN] at HF
  clear hN
  refine wp_region_held_drew (S := fun w' => w'.cell? ⟨Lb, 0, none⟩ = some (.slice ao N c) ∧ w'.cell? ⟨Mb, 0, none⟩ = some (.pointer a) ∧ Hid (Below W.heap.size W w')) (by kernel_rfl) qd (fun hHeld => ?_)
  clear qd
  refine take_op (i := 0) (d := 14) (OP := Op.load 22 (Operand.tmp 6)) (T := 22) (v := ?v1) rfl rfl rfl rfl (by kernel_rfl) (by kernel_rfl) (by kernel_rfl) (fun _ _ _ h => h) (by rfl) ?h1 hHeld ?r1
  case h1 => (intro w' hSw; (try dsimp only at hSw); go_simp <;> with_reducible rfl)
  try simp only [Act.put, sI, sZ, sS]
  refine take_op (i := 1) (d := 15) (OP := Op.call { callee := Callee.builtin Builtin.len, args := #[Operand.tmp 14], argTypes := #[22] }) (T := 3) (v := ?v2) rfl rfl rfl rfl (by kernel_rfl) (by kernel_rfl) (by kernel_rfl) (fun _ _ _ h => h) (by rfl) ?h2 hHeld ?r2
  case h2 => (intro w' hSw; (try dsimp only at hSw); go_simp <;> with_reducible rfl)
  try simp only [Act.put, sI, sZ, sS]
  refine take_op (i := 2) (d := 16) (OP := Op.load 27 (Operand.tmp 2)) (T := 27) (v := ?v3) rfl rfl rfl rfl (by kernel_rfl) (by kernel_rfl) (by kernel_rfl) (fun _ _ _ h => h) (by rfl) ?h3 hHeld ?r3
  case h3 => (intro w' hSw; (try dsimp only at hSw); go_simp <;> with_reducible rfl)
  try simp only [Act.put, sI, sZ, sS]
  refine call_op (i := 3) (d := 17) (OP := Op.call { callee := Callee.value (Operand.func 21), args := #[Operand.tmp 16], argTypes := #[27] }) (T := 3) (f := 21) (args := #[.agg #[.pointer a]]) rfl rfl rfl rfl (by kernel_rfl) (by rfl) (by go_simp) ?_
  refine (hlen _ hHeld.2.2.out).mono ?_
  rintro e z1 ⟨rfl, bz⟩
  have qz : z1.cell? ⟨Lb, 0, none⟩ = some (.slice ao N c) ∧ z1.cell? ⟨Mb, 0, none⟩ = some (.pointer a) ∧ Hid (Below W.heap.size W z1) := ⟨cell_stays hHeld.1 bz, cell_stays hHeld.2.1 bz, hide (hHeld.2.2.out.trans (bz.mono hHeld.2.2.out.size))⟩
  refine ⟨_, rfl, qz, ?_⟩
  clear bz
  replace hHeld := qz
  clear qz
  try simp only [Act.put, sI, sZ, sS]
  refine take_op (i := 4) (d := 18) (OP := Op.binOp BinOp.lss 3 (Operand.tmp 15) (Operand.tmp 17) 3) (T := 4) (v := ?v4) rfl rfl rfl rfl (by kernel_rfl) (by kernel_rfl) (by kernel_rfl) (fun _ _ _ h => h) (by rfl) ?h4 hHeld ?r4
  case h4 => (intro w' hSw; (try dsimp only at hSw); go_simp <;> with_reducible rfl)
  try simp only [Act.put, sI, sZ, sS]
  refine wpAnyH_done (by kernel_rfl) ?_ _
  obtain ⟨lz, -, HBZ⟩ := hHeld
  clear hlen
  rcases hcmp with ⟨hm, hNn⟩ | ⟨hm, hN0, hn0, hnil⟩
  · have d1 : decide ((N : Int) < (t.n : Int)) = false := by simp; omega
    have d2 : ¬ (N : Int) < (t.n : Int) := by omega
    have HX := hide hm
    clear hm hNn
    go_wp2
    go_ret2
    exact ⟨ao, c, by rw [HEC.out, HX.out, ← HN.out]; rfl, by rw [← HN.out]; exact HF.out z1 HBZ.out⟩
  · have d1 : decide ((N : Int) < (t.n : Int)) = true := by simp; omega
    have d2 : (N : Int) < (t.n : Int) := by omega
    have HX := hide (And.intro hm (And.intro hnil hN0))
    clear hm hN0 hn0 hnil
    go_wp2
    go_ret2
    refine ⟨none, 0, by rw [HEC.out, HX.out.1, ← HN.out, HX.out.2.2]; rfl, ?_, (HF.out z1 HBZ.out).2⟩
    rw [← HN.out, HX.out.2.2, HX.out.2.1]
    exact Oe.nil _ _
set_option maxHeartbeats 8000000 in
set_option maxRecDepth 100000 in
theorem gathQ124 (t : Pm.T) (w : World) (ht : Pm.In w t) (hs : Pm.Srt t.list) (hk : ∀ x ∈ t.list, x.1.size ≤ 9223372036854775807) (hn : t.n ≤ 100000) :
    Calls Tryz.prog 159 #[Pm.mv t, .func (.func 160) #[] #[]] w fun e w' => ∃ ao c, e = .returned (.tuple #[.slice ao ((elsL t.list).map Prod.snd).length c, .int .i64 (if mayL t.list then 0 else 2)]) ∧ Ot w' w.heap.size (.slice ao ((elsL t.list).map Prod.snd).length c) ((elsL t.list).map Prod.snd) ∧ Below w.heap.size w w' := by
  obtain ⟨a, ha⟩ := t.ptr_shape
  obtain ⟨w1, hw1⟩ : ∃ w1, w1 = ((w.alloc (.cells #[.pointer a] 27)).alloc (.cells #[.func (.func 160) #[] #[]] 151)).alloc (.cells #[.slice none 0 0] 63) := ⟨_, rfl⟩
  obtain ⟨m0, m1, m2, b1⟩ := new3r w (.cells #[.pointer a] 27) (.cells #[.func (.func 160) #[] #[]] 151) (.cells #[.slice none 0 0] 63)
  rw [← hw1] at m0 m1 m2 b1
  have s1 : w1.heap.size = w.heap.size + 3 := by rw [hw1]; simp
  have hAll := since105 t zS w1
  obtain ⟨wA, hwA⟩ : ∃ wA, wA = (w1.alloc (.cells #[t.ptr] 27)).alloc (.cells #[.int .i64 0, .int .i64 0, .string ⟨#[]⟩, .int .i64 0, .int .i64 0] 43) := ⟨_, rfl⟩
  simp only [zS] at hAll
  rw [← hwA] at hAll
  have sA : wA.heap.size = w1.heap.size + 2 := by rw [hwA]; simp
  have bA : Below w1.heap.size w1 wA := by rw [hwA]; exact ((Below.refl _ w1).alloc (Nat.le_refl _) _).alloc (by simp) _
  have bWA : Below w.heap.size w wA := b1.trans (bA.mono b1.size)
  have cL : wA.cell? ⟨w1.heap.size, 0, none⟩ = some t.ptr := by rw [hwA]; exact (cell_of_row _ _ 0 _ 27 (0, 0) (new2 w1 _ _).1).trans rfl
  have cS : wA.heap[w1.heap.size + 1]? = some (.cells #[.int .i64 0, .int .i64 0, .string ⟨#[]⟩, .int .i64 0, .int .i64 0] 43 (0, 0)) := by rw [hwA]; exact (new2 w1 _ _).2
  have iA : Pm.In wA t := Pm.In.below bWA ht
  obtain ⟨Tb, hT0⟩ : ∃ q, q = w.heap.size + 1 := ⟨_, rfl⟩
  obtain ⟨Lb, hLb⟩ : ∃ q, q = w.heap.size + 1 + 1 := ⟨_, rfl⟩
  obtain ⟨Mb, hMb⟩ : ∃ q, q = w.heap.size := ⟨_, rfl⟩
  have hit := iterC199 t w1.heap.size (w1.heap.size + 1) Lb Tb zS wA iA hs hk cL cS
  obtain ⟨xs, hxs⟩ : ∃ xs, xs = elsL t.list := ⟨_, rfl⟩
  rw [sinL_zero, ← hxs] at hit
  rw [← hxs]
  have hxl : xs.length ≤ 100000 := by
    rw [hxs, elsL]
    split
    · rw [elsM, List.length_map, Pm.T.n_eq]; exact hn
    · simp
  have m0A : wA.heap[Mb]? = some (.cells #[.pointer a] 27 (0, 0)) := by rw [hMb]; exact (bA.block _ (by omega)).trans m0
  have m1A : wA.heap[Tb]? = some (.cells #[.func (.func 160) #[] #[]] 151 (0, 0)) := by rw [hT0]; exact (bA.block _ (by omega)).trans m1
  have m2A : wA.heap[Lb]? = some (.cells #[.slice none 0 0] 63 (0, 0)) := by rw [hLb]; exact (bA.block _ (by omega)).trans m2
  have HZ : Hid (wA.heap.size = w.heap.size + 5 ∧ Mb = w.heap.size ∧ Tb = w.heap.size + 1 ∧ Lb = w.heap.size + 2 ∧ w1.heap.size = w.heap.size + 3) := hide ⟨by omega, hMb, hT0, hLb, s1⟩
  have hKlt : ∀ j, KS t w1.heap.size (w1.heap.size + 1) j → j < wA.heap.size ∧ j ≠ Lb := fun j hj => by
    rcases hj with rfl | rfl | hj
    · omega
    · omega
    · have := ht.blk_lt hj; omega
  have hgo := hit (fun j => j = Lb) (fun B k W => k ≤ xs.length ∧ GIS wA Lb B ((xs.take k).map Prod.snd) W) wA (fun j _ => rfl) (Nat.le_refl _) (fun j e hj => (hKlt j hj).2 e) (fun j e => by have := HZ.out; have e' : j = Lb := e; omega)
    (fun B c W1 W2 hB hi ho => by
      obtain ⟨h1, h2⟩ := hi
      obtain ⟨ao, c', hb, hO⟩ := h2.box
      have hz := HZ.out
      exact ⟨h1, h2.only.trans ho (fun j hj e => by have e' : wA.heap.size ≤ j ∧ j < B := e; omega), ao, c', (ho.block _ (gI hb).1 (fun e => by have e' : wA.heap.size ≤ Lb ∧ Lb < B := e; omega)).trans hb, hO.only ho (fun k hk e => by have := World.ownsRow.lt hO k hk; have e' : wA.heap.size ≤ k ∧ k < B := e; omega)⟩)
    (fun B c x W1 hB hx hi _ hsz => by
      obtain ⟨h1, h2⟩ := hi
      obtain ⟨ao, c', hb, hO⟩ := h2.box
      have hz := HZ.out
      have htk : (xs.take (c + 1)).map Prod.snd = (xs.take c).map Prod.snd ++ [x.2] := by rw [List.take_add_one, hx]; simp
      have tb := (h2.only.block _ (gI m1A).1 (fun e => by have e' : Tb = Lb ∨ B ≤ Tb := e; omega)).trans m1A
      refine (gath160 x.1 x.2 _ hb tb hO (by omega) (by omega) (by omega) hsz (by simp; omega)).mono ?_
      rintro e W5 ⟨he, ho, a', c2, hb5, hO5⟩
      refine ⟨he, ho, by have := (List.getElem?_eq_some_iff.1 hx).1; omega, h2.only.next ho, a', c2, ?_, ?_⟩
      · rw [htk, List.length_append, List.length_singleton]; exact hb5
      · rw [htk, List.length_append, List.length_singleton]; exact hO5)
    (fun B W1 hb hB => by
      have hz := HZ.out
      refine ⟨Nat.zero_le _, below_only hb, none, 0, ?_, ?_⟩
      · simp only [List.take_zero, List.map_nil, List.length_nil]
        exact (hb.block _ (by omega)).trans m2A
      · simp only [List.take_zero, List.map_nil, List.length_nil]
        exact Ot.nil _ _)
  obtain ⟨ec, hec⟩ : ∃ ec : Int, ec = (if mayL t.list then 0 else 2) := ⟨_, rfl⟩
  rw [← hec]
  have HEC := hide hec
  clear hec
  obtain ⟨pl, hpl⟩ : ∃ pl, pl = xs.map Prod.snd := ⟨_, rfl⟩
  rw [← hpl]
  have HPL := hide hpl
  have HB : Hid (Below w.heap.size w wA ∧ Pm.In w t ∧ t.n ≤ 100000 ∧ xs = elsL t.list ∧ wA.heap[Mb]? = some (.cells #[.pointer a] 27 (0, 0))) := hide ⟨bWA, ht, hn, hxs, m0A⟩
  have HP := hide ha
  have HW1 := hide hw1
  have HM := hide (And.intro hMb (And.intro hT0 hLb))
  have HXL := hide hxl
  unfold Pm.mv at hAll ⊢
  dsimp only [svT, sv] at hAll
  rw [ha] at hAll ⊢
  have c0 : w1.cell? ⟨Mb, 0, none⟩ = some (.pointer a) := by rw [hMb]; exact (cell_of_row _ _ 0 _ 27 (0, 0) m0).trans rfl
  clear m0 m1 m2 b1 s1 sA bA bWA cL cS iA hw1 hwA hMb hT0 hLb ht hs hk hn hxs ha hit hKlt m0A m1A m2A hpl hxl
  go_enter Tryz.func159, Tryz.ntmps159
  go_upto_region 3 with fail
  rw [← HW1.out]
  rw [← HM.out.2.2, ← HM.out.2.1, ← HM.out.1]
  go_upto_region 4 with (first
    | (go_at_call 105; refine hAll.mono ?_; rintro e w' ⟨rfl, hw'⟩; obtain rfl : wA = w' := hw'.symm; clear hw'; dsimp only)
    | (go_at_call 162; refine hgo.mono ?_; rintro e W ⟨⟨vv, rfl⟩, B, hB, hle, hi⟩; have HI := hide (And.intro hB hi); clear hB hle hi; dsimp only))
  obtain ⟨hB, hi⟩ := HI.out
  rw [List.take_length, ← HPL.out] at hi
  obtain ⟨ao, c, hbx, hO⟩ := hi.box
  have lc : W.cell? ⟨Lb, 0, none⟩ = some (.slice ao (pl).length c) := (cell_of_row _ _ 0 _ 63 (0, 0) hbx).trans rfl
  obtain ⟨bw, iw, hn, hxs, m0A⟩ := HB.out
  have mb := (hi.only.block _ (by have := HZ.out; omega) (fun e => by have := HZ.out; have e' : Mb = Lb ∨ B ≤ Mb := e; omega)).trans m0A
  have mc : W.cell? ⟨Mb, 0, none⟩ = some (.pointer a) := (cell_of_row _ _ 0 _ 27 (0, 0) mb).trans rfl
  have iW : Pm.In W t := Pm.In.only hi.only (Pm.In.below bw iw) (fun p hp hd he => by
    have hblk : p < w.heap.size := iw.blk_lt (j := p) he
    have := HZ.out
    have hd' : p = Lb ∨ B ≤ p := hd
    omega)
  have bW : Below w.heap.size w W := Below.only bw hi.only bw.size (fun j e => by have := HZ.out; have e' : j = Lb ∨ B ≤ j := e; omega)
  have hlen : ∀ W', Below W.heap.size W W' → Calls Tryz.prog 21 #[.agg #[.pointer a]] W' fun e w' => e = .returned (.int .i64 (t.n : Nat)) ∧ Below W'.heap.size W' w' := fun W' hW => by
    have := Pm.mLen_any t W' (Pm.In.below hW iW)
    unfold Pm.mv at this
    rw [HP.out] at this
    exact this
  have hcmp : (mayL t.list = true ∧ (pl).length = t.n) ∨ (mayL t.list = false ∧ (pl).length = 0 ∧ 0 < t.n ∧ pl = []) := by
    by_cases hm : mayL t.list = true
    · left
      refine ⟨hm, ?_⟩
      rw [HPL.out, hxs, elsL, if_pos hm]
      simp [elsM, Pm.T.n_eq]
    · right
      have hm' : mayL t.list = false := by simpa using hm
      refine ⟨hm', ?_, ?_, ?_⟩
      · rw [HPL.out]; simp [hxs, elsL, hm]
      · rcases Nat.eq_zero_or_pos t.n with h0 | h0
        · exfalso
          rw [← Pm.T.n_eq, List.length_eq_zero_iff] at h0
          rw [h0] at hm'
          cases hm'
        · exact h0
      · rw [HPL.out]; simp [hxs, elsL, hm]
  have hlow : w.heap.size ≤ B := by have := HZ.out; omega
  have HF : Hid (∀ W', Below W.heap.size W W' → Ot W' w.heap.size (.slice ao (pl).length c) (pl) ∧ Below w.heap.size w W') := hide (fun W' hW => ⟨(hO.below hW).lift hlow, bW.trans (hW.mono bW.size)⟩)
  have qd : W.drew.cell? ⟨Lb, 0, none⟩ = some (.slice ao (pl).length c) ∧ W.drew.cell? ⟨Mb, 0, none⟩ = some (.pointer a) ∧ Hid (Below W.heap.size W W.drew) := ⟨lc, mc, hide (drew_below W)⟩
  clear hi hbx hO lc mb mc bw iw hn hxs iW bW hlow m0A hB hgo hAll c0
  obtain ⟨N, hN⟩ : ∃ N, N = (pl).length := ⟨_, rfl⟩
  rw [← hN] at hcmp qd
  have HN := hide hN
  rw [← hN] at HF
  clear hN
  refine wp_region_held_drew (S := fun w' => w'.cell? ⟨Lb, 0, none⟩ = some (.slice ao N c) ∧ w'.cell? ⟨Mb, 0, none⟩ = some (.pointer a) ∧ Hid (Below W.heap.size W w')) (by kernel_rfl) qd (fun hHeld => ?_)
  clear qd
  refine take_op (i := 0) (d := 14) (OP := Op.load 63 (Operand.tmp 6)) (T := 63) (v := ?v5) rfl rfl rfl rfl (by kernel_rfl) (by kernel_rfl) (by kernel_rfl) (fun _ _ _ h => h) (by rfl) ?h5 hHeld ?r5
  case h5 => (intro w' hSw; (try dsimp only at hSw); go_simp <;> with_reducible rfl)
  try simp only [Act.put, sI, sZ, sS]
  refine take_op (i := 1) (d := 15) (OP := Op.call { callee := Callee.builtin Builtin.len, args := #[Operand.tmp 14], argTypes := #[63] }) (T := 3) (v := ?v6) rfl rfl rfl rfl (by kernel_rfl) (by kernel_rfl) (by kernel_rfl) (fun _ _ _ h => h) (by rfl) ?h6 hHeld ?r6
  case h6 => (intro w' hSw; (try dsimp only at hSw); go_simp <;> with_reducible rfl)
  try simp only [Act.put, sI, sZ, sS]
  refine take_op (i := 2) (d := 16) (OP := Op.load 27 (Operand.tmp 2)) (T := 27) (v := ?v7) rfl rfl rfl rfl (by kernel_rfl) (by kernel_rfl) (by kernel_rfl) (fun _ _ _ h => h) (by rfl) ?h7 hHeld ?r7
  case h7 => (intro w' hSw; (try dsimp only at hSw); go_simp <;> with_reducible rfl)
  try simp only [Act.put, sI, sZ, sS]
  refine call_op (i := 3) (d := 17) (OP := Op.call { callee := Callee.value (Operand.func 21), args := #[Operand.tmp 16], argTypes := #[27] }) (T := 3) (f := 21) (args := #[.agg #[.pointer a]]) rfl rfl rfl rfl (by kernel_rfl) (by rfl) (by go_simp) ?_
  refine (hlen _ hHeld.2.2.out).mono ?_
  rintro e z1 ⟨rfl, bz⟩
  have qz : z1.cell? ⟨Lb, 0, none⟩ = some (.slice ao N c) ∧ z1.cell? ⟨Mb, 0, none⟩ = some (.pointer a) ∧ Hid (Below W.heap.size W z1) := ⟨cell_stays hHeld.1 bz, cell_stays hHeld.2.1 bz, hide (hHeld.2.2.out.trans (bz.mono hHeld.2.2.out.size))⟩
  refine ⟨_, rfl, qz, ?_⟩
  clear bz
  replace hHeld := qz
  clear qz
  try simp only [Act.put, sI, sZ, sS]
  refine take_op (i := 4) (d := 18) (OP := Op.binOp BinOp.lss 3 (Operand.tmp 15) (Operand.tmp 17) 3) (T := 4) (v := ?v8) rfl rfl rfl rfl (by kernel_rfl) (by kernel_rfl) (by kernel_rfl) (fun _ _ _ h => h) (by rfl) ?h8 hHeld ?r8
  case h8 => (intro w' hSw; (try dsimp only at hSw); go_simp <;> with_reducible rfl)
  try simp only [Act.put, sI, sZ, sS]
  refine wpAnyH_done (by kernel_rfl) ?_ _
  obtain ⟨lz, -, HBZ⟩ := hHeld
  clear hlen
  rcases hcmp with ⟨hm, hNn⟩ | ⟨hm, hN0, hn0, hnil⟩
  · have d1 : decide ((N : Int) < (t.n : Int)) = false := by simp; omega
    have d2 : ¬ (N : Int) < (t.n : Int) := by omega
    have HX := hide hm
    clear hm hNn
    go_wp2
    go_ret2
    exact ⟨ao, c, by rw [HEC.out, HX.out, ← HN.out]; rfl, by rw [← HN.out]; exact HF.out z1 HBZ.out⟩
  · have d1 : decide ((N : Int) < (t.n : Int)) = true := by simp; omega
    have d2 : (N : Int) < (t.n : Int) := by omega
    have HX := hide (And.intro hm (And.intro hnil hN0))
    clear hm hN0 hn0 hnil
    go_wp2
    go_ret2
    refine ⟨none, 0, by rw [HEC.out, HX.out.1, ← HN.out, HX.out.2.2]; rfl, ?_, (HF.out z1 HBZ.out).2⟩
    rw [← HN.out, HX.out.2.2, HX.out.2.1]
    exact Ot.nil _ _
theorem qElements_any (t : Pm.T) (w : World) (ht : Pm.In w t) (hs : Pm.Srt t.list) (hk : ∀ x ∈ t.list, x.1.size ≤ 9223372036854775807) (hn : t.n ≤ 100000) :
    Calls Tryz.prog 97 #[Pm.mv t] w fun e w' => ∃ ao c, e = .returned (.tuple #[.slice ao (elsL t.list).length c, .int .i64 (if mayL t.list then 0 else 2)]) ∧ Oe w' w.heap.size (.slice ao (elsL t.list).length c) (elsL t.list) ∧ Below w.heap.size w w' := by
  obtain ⟨a, ha⟩ := t.ptr_shape
  have hb : Below w.heap.size w (w.alloc (.cells #[t.ptr] 27)) := (Below.refl _ w).alloc (Nat.le_refl _) _
  have hg := gathQ122 t _ (Pm.In.below hb ht) hs hk hn
  have HB := hide hb
  clear hb
  obtain ⟨N, hN⟩ : ∃ N, N = (elsL t.list).length := ⟨_, rfl⟩
  obtain ⟨ec, hec⟩ : ∃ ec : Int, ec = (if mayL t.list then 0 else 2) := ⟨_, rfl⟩
  rw [← hN, ← hec] at hg ⊢
  generalize elsL t.list = L at *
  clear hN hec
  unfold Pm.mv at hg ⊢
  rw [ha] at hg HB ⊢
  clear ht hs hk hn ha
  go_enter Tryz.func97, Tryz.ntmps97
  go_wp2_with (go_at_call 157; refine hg.mono ?_; rintro e w1 ⟨ao, c, rfl, hO, b1⟩; have H1 := hide (And.intro hO b1); clear hO b1; dsimp only)
  go_ret2
  have b0 := HB.out
  refine ⟨ao, c, rfl, H1.out.1.lift b0.size, b0.trans (H1.out.2.mono b0.size)⟩
theorem qTexts_any (t : Pm.T) (w : World) (ht : Pm.In w t) (hs : Pm.Srt t.list) (hk : ∀ x ∈ t.list, x.1.size ≤ 9223372036854775807) (hn : t.n ≤ 100000) :
    Calls Tryz.prog 101 #[Pm.mv t] w fun e w' => ∃ ao c, e = .returned (.tuple #[.slice ao ((elsL t.list).map Prod.snd).length c, .int .i64 (if mayL t.list then 0 else 2)]) ∧ Ot w' w.heap.size (.slice ao ((elsL t.list).map Prod.snd).length c) ((elsL t.list).map Prod.snd) ∧ Below w.heap.size w w' := by
  obtain ⟨a, ha⟩ := t.ptr_shape
  have hb : Below w.heap.size w (w.alloc (.cells #[t.ptr] 27)) := (Below.refl _ w).alloc (Nat.le_refl _) _
  have hg := gathQ124 t _ (Pm.In.below hb ht) hs hk hn
  have HB := hide hb
  clear hb
  obtain ⟨N, hN⟩ : ∃ N, N = ((elsL t.list).map Prod.snd).length := ⟨_, rfl⟩
  obtain ⟨ec, hec⟩ : ∃ ec : Int, ec = (if mayL t.list then 0 else 2) := ⟨_, rfl⟩
  rw [← hN, ← hec] at hg ⊢
  generalize (elsL t.list).map Prod.snd = L at *
  clear hN hec
  unfold Pm.mv at hg ⊢
  rw [ha] at hg HB ⊢
  clear ht hs hk hn ha
  go_enter Tryz.func101, Tryz.ntmps101
  go_wp2_with (go_at_call 159; refine hg.mono ?_; rintro e w1 ⟨ao, c, rfl, hO, b1⟩; have H1 := hide (And.intro hO b1); clear hO b1; dsimp only)
  go_ret2
  have b0 := HB.out
  refine ⟨ao, c, rfl, H1.out.1.lift b0.size, b0.trans (H1.out.2.mono b0.size)⟩
theorem elementsJ {w : World} {t : Pm.T} {pm : Option Addr} (h : Mg w t) (hp : t.ptr = .pointer pm) : Calls Tryz.prog 97 #[.agg #[.pointer pm]] w fun e w' => ∃ ao c, e = .returned (.tuple #[.slice ao (elsL t.list).length c, .int .i64 (if mayL t.list then 0 else 2)]) ∧ Oe w' w.heap.size (.slice ao (elsL t.list).length c) (elsL t.list) ∧ Below w.heap.size w w' := by
  have := qElements_any t w h.inn h.srt h.key (by have := h.few; omega)
  unfold Pm.mv at this
  rw [hp] at this
  exact this
theorem textsJ {w : World} {t : Pm.T} {pm : Option Addr} (h : Mg w t) (hp : t.ptr = .pointer pm) : Calls Tryz.prog 101 #[.agg #[.pointer pm]] w fun e w' => ∃ ao c, e = .returned (.tuple #[.slice ao ((elsL t.list).map Prod.snd).length c, .int .i64 (if mayL t.list then 0 else 2)]) ∧ Ot w' w.heap.size (.slice ao ((elsL t.list).map Prod.snd).length c) ((elsL t.list).map Prod.snd) ∧ Below w.heap.size w w' := by
  have := qTexts_any t w h.inn h.srt h.key (by have := h.few; omega)
  unfold Pm.mv at this
  rw [hp] at this
  exact this
end Go.Proofs.YtkkpdgfllnbigaaGreat.Jo
namespace Go.Proofs.YtkkpdgfllnbigaaGreat.Jo
open Go.RowKit Go.Shelf
set_option linter.unusedSimpArgs false
attribute [local go_sem] Oper.semAt_some

theorem ins_all {k v : ByteArray} : ∀ {l : List (ByteArray × ByteArray)}, (∀ y ∈ l, Pm.cmpB y.1 k = -1) → Pm.ins k v l = l ++ [(k, v)]
  | [], _ => rfl
  | x :: l, h => by rw [Pm.ins_lessP (h x (by simp)), ins_all (fun y hy => h y (by simp [hy]))]; rfl
theorem ins_end {k v : ByteArray} {l : List (ByteArray × ByteArray)} (hs : Pm.Srt l) (h : Pm.cmpB ((l.getLast?.map Prod.fst).getD ⟨#[]⟩) k = -1) : Pm.ins k v l = l ++ [(k, v)] := by
  refine ins_all (fun y hy => ?_)
  cases hl : l.getLast? with
  | none => rw [List.getLast?_eq_none_iff.1 hl] at hy; cases hy
  | some z =>
    rw [hl] at h
    have hz : Pm.cmpB z.1 k = -1 := h
    obtain ⟨ys, rfl⟩ := List.getLast?_eq_some_iff.1 hl
    rcases List.mem_append.1 hy with h1 | h1
    · exact Pm.ord_B.trans _ _ _ ((List.pairwise_append.1 hs).2.2 y h1 z (by simp)) hz
    · rw [List.mem_singleton.1 h1]; exact hz
set_option maxHeartbeats 4000000 in
set_option maxRecDepth 100000 in
theorem jAppend_any (t : Pm.T) (s : St) (x : ByteArray) (w : World) (h : Mg w t) (hn4 : t.n < 400) :
    Calls Tryz.prog 90 #[Pm.mv t, svT s, .string x] w (MapE w (if okWr t.list s x then 0 else 2) (fun t' => t'.list = if okWr t.list s x then t.list ++ [(keyT s, x)] else [])) := by
  obtain ⟨a, ha⟩ := t.ptr_shape
  obtain ⟨g, r, l, n, i⟩ := s
  obtain ⟨w0, hw0⟩ : ∃ w0, w0 = ((w.alloc (.cells #[.pointer a] 27)).alloc (.cells #[.int .i64 g, .int .i64 r, .string l, .int .i64 n, .int .i64 i] 43)).alloc (.cells #[.pointer none] 27) := ⟨_, rfl⟩
  obtain ⟨m0, m1, m2, b0⟩ := new4r w _ _ _ w0 hw0
  have hkey := keyT_any (g, r, l, n, i) w0
  have hlast : ∀ W, Below w.heap.size w W → Calls Tryz.prog 138 #[.agg #[.pointer a]] W fun e w' => e = .returned (.tuple #[.string t.last.key, .string t.last.val, .bool t.last.isSome]) ∧ Below W.heap.size W w' := fun W hW => by
    have := Pm.mLast_any t W (Pm.In.below hW h.inn)
    unfold Pm.mv at this
    rw [ha] at this
    exact this
  have hmay : ∀ W, Below w.heap.size w W → Calls Tryz.prog 100 #[.agg #[.pointer a]] W fun e w' => e = .returned (.bool (mayL t.list)) ∧ Below W.heap.size W w' := fun W hW => by
    have := jrMay_any t W (h.below hW).inn (h.below hW).srt (h.below hW).key
    unfold Pm.mv at this
    rw [ha] at this
    exact this
  have htx := fun W => jmayText_any x W
  have hput : ∀ W, Below w.heap.size w W → Calls Tryz.prog 25 #[.agg #[.pointer a], .string (keyT (g, r, l, n, i)), .string x] W fun e w' => ∃ t', e = .returned (Pm.mv t') ∧ Pm.In w' t' ∧ (Pm.Puts W.heap.size (keyT (g, r, l, n, i)) x t t' ∧ Mg W t) ∧ Below W.heap.size W w' := fun W hW => by
    have := Pm.mPut_any t (keyT (g, r, l, n, i)) x W (h.below hW).inn (by omega)
    unfold Pm.mv at this
    rw [ha] at this
    exact this.mono (fun e w' hh => by
      obtain ⟨t', h1, h2, h3, h4⟩ := hh
      exact ⟨t', h1, h2, ⟨h3, h.below hW⟩, h4⟩)
  have hksz : (keyT (g, r, l, n, i)).size ≤ 9223372036854775807 ∨ stV (g, r, l, n, i) = false := by
    by_cases hv : stV (g, r, l, n, i) = true
    · left
      have := S_bounds hv
      unfold keyT keyS
      simp only [ByteArray.size_append, strOfNums_size, low_length, List.length_singleton]
      have h0 : (ByteArray.mk #[0]).size = 1 := rfl
      dsimp only at this ⊢
      omega
    · right; simpa using hv
  have HC : Hid (∀ W, Below w0.heap.size w0 W → W.cell? ⟨w.heap.size, 0, none⟩ = some (.pointer a) ∧ W.heap[w.heap.size + 1 + 1]? = some (.cells #[.pointer none] 27 (0, 0)) ∧ Below w.heap.size w W) := hide (fun W hW => ⟨cell_stays ((cell_of_row _ _ 0 _ 27 (0, 0) m0).trans rfl) hW, (hW.block _ (gI m2).1).trans m2, b0.trans (hW.mono b0.size)⟩)
  have HW0 := hide hw0
  have hlk := last_key t
  have bad : ∀ W, Below w0.heap.size w0 W → W.cell? ⟨w.heap.size + 1 + 1, 0, none⟩ = some (.pointer none) ∧ W.frozen? ⟨w.heap.size + 1 + 1, 0, none⟩ = false ∧ Hid ((W.setCell ⟨w.heap.size + 1 + 1, 0, none⟩ (.pointer none)).heap[w.heap.size + 1 + 1]? = some (.cells #[.pointer none] 27 (0, 0)) ∧ Below w.heap.size w (W.setCell ⟨w.heap.size + 1 + 1, 0, none⟩ (.pointer none))) := fun W hW => by
    obtain ⟨-, q2, q3⟩ := HC.out W hW
    obtain ⟨u, o⟩ := set_one (i := 0) (.pointer none) q2
    exact ⟨(cell_of_row _ _ 0 _ 27 (0, 0) q2).trans rfl, frozen_of_row _ _ 0 _ 27 q2, hide ⟨by simpa using u, Below.only q3 o q3.size (fun j e => by have e' : j = w.heap.size + 1 + 1 := e; omega)⟩⟩
  have HBAD := hide bad
  have HH := hide (And.intro h (And.intro hksz hn4))
  have c1 : w0.cell? ⟨w.heap.size + 1, 0, none⟩ = some (.int .i64 g) ∧ w0.cell? ⟨w.heap.size + 1, 1, none⟩ = some (.int .i64 r) ∧ w0.cell? ⟨w.heap.size + 1, 2, none⟩ = some (.string l) ∧ w0.cell? ⟨w.heap.size + 1, 3, none⟩ = some (.int .i64 n) ∧ w0.cell? ⟨w.heap.size + 1, 4, none⟩ = some (.int .i64 i) := ⟨(cell_of_row _ _ 0 _ 43 (0, 0) m1).trans rfl, (cell_of_row _ _ 1 _ 43 (0, 0) m1).trans rfl, (cell_of_row _ _ 2 _ 43 (0, 0) m1).trans rfl, (cell_of_row _ _ 3 _ 43 (0, 0) m1).trans rfl, (cell_of_row _ _ 4 _ 43 (0, 0) m1).trans rfl⟩
  dsimp only [svT] at hkey ⊢
  unfold Pm.mv
  rw [ha]
  clear h hn4 ha m0 m1 m2 b0 bad hksz hw0
  have hok : okWr t.list (g, r, l, n, i) x = (stV (g, r, l, n, i) && txtB x && decide (Pm.cmpB t.last.key (keyT (g, r, l, n, i)) = -1) && mayL t.list) := by rw [okWr, hlk]
  obtain ⟨OK, hOK⟩ : ∃ OK, OK = okWr t.list (g, r, l, n, i) x := ⟨_, rfl⟩
  rw [← hOK] at hok ⊢
  obtain ⟨EC, hEC⟩ : ∃ EC : Int, EC = if OK = true then 0 else 2 := ⟨_, rfl⟩
  obtain ⟨PL, hPL⟩ : ∃ PL : List Kv, PL = if OK = true then t.list ++ [(keyT (g, r, l, n, i), x)] else [] := ⟨_, rfl⟩
  rw [← hEC, ← hPL]
  have HEC := hide hEC
  have hless := leq_B (keyT (g, r, l, n, i)) t.last.key
  obtain ⟨V, hV⟩ : ∃ V, V = stV (g, r, l, n, i) := ⟨_, rfl⟩
  rw [← hV] at hok hkey
  have HV := hide hV
  have HLK := hide hlk
  clear hV hOK hlk
  generalize hKK : keyT (g, r, l, n, i) = K at *
  generalize mayL t.list = M at *
  generalize txtB x = TX at *
  generalize t.last.key = LK at *
  generalize t.last.val = LV at *
  generalize t.last.isSome = LS at *
  obtain ⟨LE, hLE⟩ : ∃ LE, LE = decide (Pm.cmpB LK K = -1) := ⟨_, rfl⟩
  rw [← hLE] at hok hless
  have HKK := hide hKK
  have HLE := hide hLE
  have HPL := hide hPL
  clear hLE hKK hPL hEC
  have HL := hide hlast
  have HMY := hide hmay
  have HP := hide hput
  obtain ⟨d0, d1, d2, d3, d4⟩ := c1
  have fail_ : ∀ (W : World), OK = false → (W.setCell ⟨w.heap.size + 1 + 1, 0, none⟩ (.pointer none)).heap[w.heap.size + 1 + 1]? = some (.cells #[.pointer none] 27 (0, 0)) ∧ Below w.heap.size w (W.setCell ⟨w.heap.size + 1 + 1, 0, none⟩ (.pointer none)) → MapE w EC (fun t' => t'.list = PL) (.returned (.tuple #[.agg #[.pointer none], .int .i64 2])) (W.setCell ⟨w.heap.size + 1 + 1, 0, none⟩ (.pointer none)) := fun W ho hh => by
    refine ⟨.nil, ?_, Mg.nil _, ?_, hh.2⟩
    · rw [HEC.out, ho]; rfl
    · rw [HPL.out, ho]; rfl
  have HFL := hide fail_
  clear hlast hmay hput fail_
  cases V with
  | false =>
    have hko : OK = false := by rw [hok]; rfl
    have HK := hide hko
    clear hok hless hko
    go_enter Tryz.func90, Tryz.ntmps90
    go_upto_region 1 with fail
    rw [← HW0.out]
    go_wp2_with (first
      | (go_at_call 135; refine hkey.mono ?_; rintro e w1 ⟨rfl, b1⟩; obtain ⟨x1, -, x3⟩ := HC.out w1 b1; have H1 := hide (And.intro b1 x3); clear b1 x3; dsimp only)
      | (go_at_call 138; refine (HL.out w1 H1.out.2).mono ?_; rintro e w2 ⟨rfl, b2⟩; obtain ⟨y1, y2, HY⟩ := HBAD.out w2 (H1.out.1.trans (b2.mono H1.out.1.size)); clear b2; dsimp only))
    refine ret_row_tmp (w.heap.size + 1 + 1) [.pointer none] rfl rfl rfl Tryz.underlying27 rfl T27 HY.out.1 rfl ?_
    exact HFL.out w2 HK.out HY.out
  | true =>
    cases TX with
    | false =>
      have hko : OK = false := by rw [hok]; rfl
      have HK := hide hko
      clear hok hless hko
      go_enter Tryz.func90, Tryz.ntmps90
      go_upto_region 1 with fail
      rw [← HW0.out]
      go_wp2_with (first
        | (go_at_call 135; refine hkey.mono ?_; rintro e w1 ⟨rfl, b1⟩; obtain ⟨x1, -, x3⟩ := HC.out w1 b1; have H1 := hide (And.intro b1 x3); clear b1 x3; dsimp only)
        | (go_at_call 138; refine (HL.out w1 H1.out.2).mono ?_; rintro e w2 ⟨rfl, b2⟩; obtain ⟨y1, y2, HY⟩ := HBAD.out w2 (H1.out.1.trans (b2.mono H1.out.1.size)); clear b2; dsimp only)
        | (go_at_call 155; refine (htx _).mono ?_; rintro e w3 ⟨rfl, hw3⟩; replace hw3 := hw3.symm; subst hw3; dsimp only))
      refine ret_row_tmp (w.heap.size + 1 + 1) [.pointer none] rfl rfl rfl Tryz.underlying27 rfl T27 HY.out.1 rfl ?_
      exact HFL.out w2 HK.out HY.out
    | true =>
      cases LE with
      | false =>
        have hko : OK = false := by rw [hok]; rfl
        have HK := hide hko
        clear hok hko
        go_enter Tryz.func90, Tryz.ntmps90
        go_upto_region 1 with fail
        rw [← HW0.out]
        go_wp2_with (first
          | (go_at_call 135; refine hkey.mono ?_; rintro e w1 ⟨rfl, b1⟩; obtain ⟨x1, -, x3⟩ := HC.out w1 b1; have H1 := hide (And.intro b1 x3); clear b1 x3; dsimp only)
          | (go_at_call 138; refine (HL.out w1 H1.out.2).mono ?_; rintro e w2 ⟨rfl, b2⟩; obtain ⟨y1, y2, HY⟩ := HBAD.out w2 (H1.out.1.trans (b2.mono H1.out.1.size)); clear b2; dsimp only)
          | (go_at_call 155; refine (htx _).mono ?_; rintro e w3 ⟨rfl, hw3⟩; replace hw3 := hw3.symm; subst hw3; dsimp only))
        refine ret_row_tmp (w.heap.size + 1 + 1) [.pointer none] rfl rfl rfl Tryz.underlying27 rfl T27 HY.out.1 rfl ?_
        exact HFL.out w2 HK.out HY.out
      | true =>
        cases M with
        | false =>
          have hko : OK = false := by rw [hok]; rfl
          have HK := hide hko
          clear hok hko
          go_enter Tryz.func90, Tryz.ntmps90
          go_upto_region 1 with fail
          rw [← HW0.out]
          go_wp2_with (first
            | (go_at_call 135; refine hkey.mono ?_; rintro e w1 ⟨rfl, b1⟩; obtain ⟨x1, -, x3⟩ := HC.out w1 b1; have H1 := hide (And.intro b1 x3); clear b1 x3; dsimp only)
            | (go_at_call 138; refine (HL.out w1 H1.out.2).mono ?_; rintro e w2 ⟨rfl, b2⟩; obtain ⟨v1, -, v3⟩ := HC.out w2 (H1.out.1.trans (b2.mono H1.out.1.size)); have H2 := hide (And.intro (H1.out.1.trans (b2.mono H1.out.1.size)) v3); clear b2 v3; dsimp only)
            | (go_at_call 155; refine (htx _).mono ?_; rintro e w3 ⟨rfl, hw3⟩; replace hw3 := hw3.symm; subst hw3; dsimp only)
            | (go_at_call 100; refine (HMY.out w2 H2.out.2).mono ?_; rintro e w4 ⟨rfl, b4⟩; obtain ⟨y1, y2, HY⟩ := HBAD.out w4 (H2.out.1.trans (b4.mono H2.out.1.size)); clear b4; dsimp only))
          refine ret_row_tmp (w.heap.size + 1 + 1) [.pointer none] rfl rfl rfl Tryz.underlying27 rfl T27 HY.out.1 rfl ?_
          exact HFL.out w4 HK.out HY.out
        | true =>
          have hko : OK = true := by rw [hok]; rfl
          have HK := hide hko
          clear hok hko
          go_enter Tryz.func90, Tryz.ntmps90
          go_upto_region 1 with fail
          rw [← HW0.out]
          go_wp2_with (first
            | (go_at_call 135; refine hkey.mono ?_; rintro e w1 ⟨rfl, b1⟩; obtain ⟨x1, -, x3⟩ := HC.out w1 b1; have H1 := hide (And.intro b1 x3); clear b1 x3; dsimp only)
            | (go_at_call 138; refine (HL.out w1 H1.out.2).mono ?_; rintro e w2 ⟨rfl, b2⟩; obtain ⟨v1, -, v3⟩ := HC.out w2 (H1.out.1.trans (b2.mono H1.out.1.size)); have H2 := hide (And.intro (H1.out.1.trans (b2.mono H1.out.1.size)) v3); clear b2 v3; dsimp only)
            | (go_at_call 155; refine (htx _).mono ?_; rintro e w3 ⟨rfl, hw3⟩; replace hw3 := hw3.symm; subst hw3; dsimp only)
            | (go_at_call 100; refine (HMY.out w2 H2.out.2).mono ?_; rintro e w4 ⟨rfl, b4⟩; have H4 := hide (H2.out.1.trans (b4.mono H2.out.1.size)); have x4 := (HC.out w4 H4.out).1; clear b4; dsimp only)
            | (go_at_call 25; refine (HP.out w4 (HC.out w4 H4.out).2.2).mono ?_; rintro e w5 ⟨t', rfl, i5, l5, b5⟩; obtain ⟨pt, hpt⟩ := t'.ptr_shape; have H5 := hide (And.intro hpt (And.intro i5 (And.intro l5 (H4.out.trans (b5.mono H4.out.size))))); unfold Pm.mv; rw [hpt]; obtain ⟨y1, y2, -⟩ := HBAD.out w5 (H4.out.trans (b5.mono H4.out.size)); clear b5 i5 l5 hpt; dsimp only))
          obtain ⟨hpt, i5, ⟨l5, mg4⟩, b5⟩ := H5.out
          obtain ⟨-, q2, q3⟩ := HC.out w5 b5
          obtain ⟨u, o⟩ := set_one (i := 0) (.pointer pt) q2
          refine ret_row_tmp (w.heap.size + 1 + 1) [.pointer pt] rfl rfl rfl Tryz.underlying27 rfl T27 (by simpa using u) rfl ?_
          have hks : K.size ≤ 9223372036854775807 := by
            rcases HH.out.2.1 with h1 | h1
            · exact h1
            · rw [← HV.out] at h1; cases h1
          have mg5 := mg4.put l5 i5 HH.out.2.2 hks
          refine ⟨t', ?_, mg5.aside q2 o, ?_, Below.only q3 o q3.size (fun j e => by have e' : j = w.heap.size + 1 + 1 := e; omega)⟩
          · unfold Pm.mv; rw [hpt, HEC.out, HK.out]; rfl
          · show t'.list = PL
            rw [l5.list HH.out.1.srt, HPL.out, HK.out]
            show Pm.ins K x t.list = t.list ++ [(K, x)]
            refine ins_end HH.out.1.srt ?_
            rw [← HLK.out]
            exact of_decide_eq_true HLE.out.symm
end Go.Proofs.YtkkpdgfllnbigaaGreat.Jo
