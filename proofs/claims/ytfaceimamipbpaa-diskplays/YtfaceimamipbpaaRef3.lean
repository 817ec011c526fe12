/-
  WALKS over the document's own disk: Of, SameWrite, Cut.
-/
import Derived.Test.YtfaceimamipbpaaRef2
import Derived.Test.YtfaceimamipbpaaLook
namespace Go.Proofs.Ytfaceimamipbpaa
open Go.RowKit
set_option linter.unusedSimpArgs false

set_option maxHeartbeats 1000000 in
set_option maxRecDepth 100000 in
theorem rof_no (cap u : Int) (x0 x1 : Option Addr) (c0 c1 : Nat) (l0 l1 : List Int) (w : World) (he : ofE cap u l0 l1 ≠ 0) :
    Calls Try.prog 9 #[.int .i64 cap, .int .i64 u, .slice x0 l0.length c0, .slice x1 l1.length c1] w fun e w' => e = .returned (.tuple #[.pointer none, .int .i64 (ofE cap u l0 l1)]) ∧ w = w' := by
  by_cases h1 : cap < 1
  · have HE : Hid (ofE cap u l0 l1 = 2) := by show ofE _ _ _ _ = _; unfold ofE; rw [if_pos (.inl h1)]
    have hd : decide (cap < 1) = true := by simpa using h1
    clear he
    go_enter Try.func9, Try.ntmps9
    go_wp2
    go_ret2
    rw [HE.out]
    exact ⟨rfl, rfl⟩
  · have hd : decide (cap < 1) = false := by simpa using h1
    by_cases h2 : 1048576 < cap
    · have HE : Hid (ofE cap u l0 l1 = 2) := by show ofE _ _ _ _ = _; unfold ofE; rw [if_pos (.inr (.inl h2))]
      have hd2 : decide (1048576 < cap) = true := by simpa using h2
      clear he
      go_enter Try.func9, Try.ntmps9
      go_wp2
      go_ret2
      rw [HE.out]
      exact ⟨rfl, rfl⟩
    · have hd2 : decide (1048576 < cap) = false := by simpa using h2
      by_cases h3 : u < 0
      · have HE : Hid (ofE cap u l0 l1 = 2) := by show ofE _ _ _ _ = _; unfold ofE; rw [if_pos (.inr (.inr (by omega)))]
        have hd3 : decide (u < 0) = true := by simpa using h3
        clear he
        go_enter Try.func9, Try.ntmps9
        go_wp2
        go_ret2
        rw [HE.out]
        exact ⟨rfl, rfl⟩
      · have hd3 : decide (u < 0) = false := by simpa using h3
        by_cases h4 : 1 < u
        · have HE : Hid (ofE cap u l0 l1 = 2) := by show ofE _ _ _ _ = _; unfold ofE; rw [if_pos (.inr (.inr (by omega)))]
          have hd4 : decide (1 < u) = true := by simpa using h4
          clear he
          go_enter Try.func9, Try.ntmps9
          go_wp2
          go_ret2
          rw [HE.out]
          exact ⟨rfl, rfl⟩
        · have hd4 : decide (1 < u) = false := by simpa using h4
          have HQ : Hid (ofE cap u l0 l1 = 8 ∧ (cap < (l0.length : Nat) ∨ cap < (l1.length : Nat))) := by
            show _ ∧ _
            have hn : ¬ (cap < 1 ∨ 1048576 < cap ∨ ¬ (u = 0 ∨ u = 1)) := by omega
            unfold ofE at he ⊢
            rw [if_neg hn] at he ⊢
            by_cases h5 : cap < (l0.length : Nat) ∨ cap < (l1.length : Nat)
            · rw [if_pos h5]; exact ⟨rfl, h5⟩
            · rw [if_neg h5] at he; exact absurd rfl he
          clear he
          by_cases h5 : cap < (l0.length : Nat)
          · have hd5 : decide (cap < (l0.length : Nat)) = true := by simpa using h5
            go_enter Try.func9, Try.ntmps9
            go_wp2
            go_ret2
            rw [HQ.out.1]
            exact ⟨rfl, rfl⟩
          · have hd5 : decide (cap < (l0.length : Nat)) = false := by simpa using h5
            have hd6 : decide (cap < (l1.length : Nat)) = true := by
              rcases HQ.out.2 with q | q
              · exact absurd q h5
              · simpa using q
            go_enter Try.func9, Try.ntmps9
            go_wp2
            go_ret2
            rw [HQ.out.1]
            exact ⟨rfl, rfl⟩

set_option maxHeartbeats 1000000 in
set_option maxRecDepth 100000 in
theorem rof_yes (cap u : Int) (x0 x1 : Option Addr) (c0 c1 : Nat) (l0 l1 : List Int) (w : World) (he : ofE cap u l0 l1 = 0) (r0 : Rd w x0 l0) (r1 : Rd w x1 l1) (n0 : x0 = none → c0 = 0) (n1 : x1 = none → c1 = 0) (u0 : U8 l0) (u1 : U8 l1) :
    Calls Try.prog 9 #[.int .i64 cap, .int .i64 u, .slice x0 l0.length c0, .slice x1 l1.length c1] w fun e w' => ∃ R F G, e = .returned (.tuple #[.pointer (some ⟨R, 0, none⟩), .int .i64 0]) ∧ RD F G w' R cap ⟨l0, l1, u⟩ [] ∧ (∀ k, F k → w.heap.size ≤ k) ∧ (∀ k, G k → w.heap.size ≤ k) ∧ Below w.heap.size w w' := by
  obtain ⟨hp, hm, hu, hl0, hl1⟩ := ofE_zero he
  have hd : decide (cap < 1) = false := by simp; omega
  have hd2 : decide (1048576 < cap) = false := by simpa using hm
  have hd3 : decide (u < 0) = false := by simp; omega
  have hd3' : decide (1 < u) = false := by simp; omega
  have hd4 : decide (cap < (l0.length : Nat)) = false := by simpa using hl0
  have hd5 : decide (cap < (l1.length : Nat)) = false := by simpa using hl1
  have hf : Fit cap ⟨l0, l1, u⟩ := ⟨hl0, hl1, u0, u1, hu⟩
  have HF := hide hf
  have t1 : True := trivial
  have t2 : True := trivial
  have t3 : True := trivial
  clear he hu hf
  go_enter Try.func9, Try.ntmps9
  go_wp2_with (go_at_call 28; first
    | (clear t1; refine (rcopy_any x0 c0 l0 w r0 n0 (by omega)).mono ?_; rintro e w1 ⟨y0, d0, rfl, ho0, hn0, b1⟩)
    | (clear t2; refine (rcopy_any x1 c1 l1 w1 (r1.below b1) n1 (by omega)).mono ?_; rintro e w2 ⟨y1, d1, rfl, ho1, hn1, b2⟩; have b12 := b1.trans (b2.mono b1.size))
    | (clear t3; refine (rcopy_any x0 c0 l0 w2 (r0.below b12) n0 (by omega)).mono ?_; rintro e w3 ⟨z0, f0, rfl, hz0, hm0, b3⟩; have b13 := b12.trans (b3.mono b12.size))
    | (refine (rcopy_any x1 c1 l1 w3 (r1.below b13) n1 (by omega)).mono ?_; rintro e w4 ⟨z1, f1, rfl, hz1, hm1, b4⟩; have b14 := b13.trans (b4.mono b13.size)))
  go_ret2
  have s1 := b1.size
  have s2 := b2.size
  have s3 := b3.size
  have s4 := b4.size
  have q0 : ∀ k, Value.ownBlock (.slice y0 l0.length d0) = some k → w.heap.size ≤ k ∧ k < w1.heap.size := fun k hk => World.ownsRow.lt ho0 k hk
  have q1 : ∀ k, Value.ownBlock (.slice y1 l1.length d1) = some k → w1.heap.size ≤ k ∧ k < w2.heap.size := fun k hk => World.ownsRow.lt ho1 k hk
  have b24 := b3.trans (b4.mono s3)
  have b14' := b2.trans (b24.mono s2)
  obtain ⟨NEW, hNEW⟩ : ∃ N : Obj, N = .cells #[.int .i64 cap, .int .i64 u, .int .i64 u, .slice y0 l0.length d0, .slice y1 l1.length d1, .slice z0 l0.length f0, .slice z1 l1.length f1, .slice none 0 0] 70 := ⟨_, rfl⟩
  rw [← hNEW]
  have bA : Below w4.heap.size w4 (w4.alloc NEW) := (Below.refl _ w4).alloc (Nat.le_refl _) _
  have hFn : ∀ k, Mut w4.heap.size (.slice y0 l0.length d0) (.slice y1 l1.length d1) (.slice none 0 0) k → w.heap.size ≤ k ∧ k < w4.heap.size + 1 ∧ (k < w2.heap.size ∨ k = w4.heap.size) := by
    rintro k (rfl | hk | hk | hk)
    · omega
    · have := q0 k hk; omega
    · have := q1 k hk; omega
    · simp [Value.ownBlock] at hk
  have hGn : ∀ k, ((∃ a, z0 = some a ∧ a.block = k) ∨ ∃ a, z1 = some a ∧ a.block = k) → w2.heap.size ≤ k ∧ k < w4.heap.size := by
    rintro k (⟨a, ha, rfl⟩ | ⟨a, ha, rfl⟩)
    · have := hz0.blk a ha; omega
    · have := hz1.blk a ha; omega
  refine ⟨w4.heap.size, Mut w4.heap.size (.slice y0 l0.length d0) (.slice y1 l1.length d1) (.slice none 0 0), (fun k => (∃ a, z0 = some a ∧ a.block = k) ∨ ∃ a, z1 = some a ∧ a.block = k), rfl, ⟨⟨z0, f0, z1, f1, .slice y0 l0.length d0, .slice y1 l1.length d1, .slice none 0 0, [], ?_⟩, Fits.nil HF.out, hp, hm⟩, fun k hk => (hFn k hk).1, fun k hk => by have := (hGn k hk).1; omega, b14.trans (bA.mono b14.size)⟩
  exact { cells := by rw [heap_alloc_new w4 NEW, hNEW]; rfl, r0 := ⟨(hz0.rd.below b4).below bA, hm0, fun a ha => .inl ⟨a, ha, rfl⟩⟩, r1 := ⟨hz1.rd.below bA, hm1, fun a ha => .inr ⟨a, ha, rfl⟩⟩, o0 := ((ho0.below b14').lift (Nat.zero_le _)).alloc _, o1 := ((ho1.below b24).lift (Nat.zero_le _)).alloc _, ol := World.ownsRow_nil _ _ _ _, it := rfl, fR := .inl rfl, f0 := fun k hk => ⟨.inr (.inl hk), by have := q0 k hk; omega⟩, f1 := fun k hk => ⟨.inr (.inr (.inl hk)), by have := q1 k hk; omega, fun e => by have := q0 k e; have := q1 k hk; omega⟩, fl := fun k hk => by simp [Value.ownBlock] at hk, apart := fun k hk hg => by have := hFn k hk; have := hGn k hg; omega, uF := fun k hk => by have := hFn k hk; simp; omega, uG := fun k hk => by have := hGn k hk; simp; omega }

set_option maxHeartbeats 400000 in
set_option maxRecDepth 100000 in
theorem sameWrite_yes (k a : Int) (ao bo : Option Addr) (c d : Nat) (l : List Int) (w : World) (r0 : Rd w ao l) (r1 : Rd w bo l) :
    Calls Try.prog 31 #[wrv k a ao l.length c, wrv k a bo l.length d] w fun e w' => e = .returned (.bool true) ∧ Below w.heap.size w w' := by
  have hb : Below w.heap.size w ((w.alloc (.cells #[.int .i64 k, .int .i64 a, .slice ao l.length c] 50)).alloc (.cells #[.int .i64 k, .int .i64 a, .slice bo l.length d] 50)) := ((Below.refl _ w).alloc (Nat.le_refl _) _).alloc (by simp) _
  have h1 := conv_rd (n := l.length) (cap := c) (r0.below hb) rfl
  have h2 := conv_rd (n := l.length) (cap := d) (r1.below hb) rfl
  unfold wrv
  go_enter Try.func31, Try.ntmps31
  go_wp2
  go_ret
  exact ⟨by simp, hb⟩

section
variable {F G : Nat → Prop} {w : World} {R : Nat} {cap : Int} {beg : St} {log : List Wr}
set_option maxHeartbeats 1000000 in
set_option maxRecDepth 100000 in
theorem rcut_no (h : RD F G w R cap beg log) (n : Int) (hn : n < 0 ∨ (log.length : Int) < n) :
    Calls Try.prog 35 #[.pointer (some ⟨R, 0, none⟩), .int .i64 n] w fun e w' => e = .returned (.tuple #[.pointer none, .int .i64 2]) ∧ Below w.heap.size w w' := by
  obtain ⟨x0, c0, x1, c1, va, vb, vl, xs, h0, h1, h2, h3, h4, h5, h6, h7, _, _, _, _, hl, _⟩ := h.look
  obtain ⟨ao, c, rfl, _, _⟩ := row_form hl
  clear h hl
  by_cases hneg : n < 0
  · have hd : decide (n < 0) = true := by simpa using hneg
    go_enter Try.func35, Try.ntmps35
    go_wp2
    go_ret2
    exact ⟨rfl, Below.refl _ _⟩
  · have hd : decide (n < 0) = false := by simpa using hneg
    have hd2 : decide ((log.length : Int) < n) = true := by simp; omega
    go_enter Try.func35, Try.ntmps35
    go_wp2
    go_ret2
    exact ⟨rfl, Below.refl _ _⟩

/-- One raw write more on the document's cut: its bytes are copied, then it is done. -/
theorem rcut_do {F G : Nat → Prop} {w w2 : World} {R : Nat} {cap : Int} {beg : St} {log : List Wr} {x : Wr} {ao ao2 : Option Addr} {c c2 : Nat} (h : RD F G w R cap beg log) (bA : Below w.heap.size w (w.alloc (.cells #[.int .i64 x.kind, .int .i64 x.area, .slice ao x.data.length c] 50)))
    (b2 : Below (w.alloc (.cells #[.int .i64 x.kind, .int .i64 x.area, .slice ao x.data.length c] 50)).heap.size (w.alloc (.cells #[.int .i64 x.kind, .int .i64 x.area, .slice ao x.data.length c] 50)) w2) (ho : Own 5 w2 (w.alloc (.cells #[.int .i64 x.kind, .int .i64 x.area, .slice ao x.data.length c] 50)).heap.size (.slice ao2 x.data.length c2) x.data) (hn : ao2 = none → c2 = 0)
    (_hc : w2.heap[w.heap.size]? = some (.cells #[.int .i64 x.kind, .int .i64 x.area, .slice ao x.data.length c] 50 (0, 0))) (hok : Ok x) (hf : Fit cap (play (plays beg log) x)) (hlog : log.length < 1000000) :
    Calls Try.prog 42 #[.pointer (some ⟨R, 0, none⟩), .agg #[.int .i64 x.kind, .int .i64 x.area, .slice ao2 x.data.length c2]] (w2.setCell ⟨w.heap.size, 2, none⟩ (.slice ao2 x.data.length c2)) fun e w' => (∃ v, e = .returned v) ∧ ∃ F' G', RD F' G' w' R cap beg (log ++ [x]) ∧ Grown F F' w ∧ Grown G G' w ∧ Only F w w' := by
  have hs2 : w.heap.size + 1 ≤ w2.heap.size := by have := b2.size; simpa using this
  have bw2 : Below w.heap.size w w2 := bA.trans (b2.mono (by simp))
  have hset := Only.ofGrown (grown_setCell w2 ⟨w.heap.size, 2, none⟩ (.slice ao2 x.data.length c2))
  have bw3 : Below w.heap.size w (w2.setCell ⟨w.heap.size, 2, none⟩ (.slice ao2 x.data.length c2)) := Below.only bw2 hset (by omega) (by intro j e; cases e; exact Nat.le_refl _)
  have ho3 : Own 5 (w2.setCell ⟨w.heap.size, 2, none⟩ (.slice ao2 x.data.length c2)) w.heap.size (.slice ao2 x.data.length c2) x.data := by
    refine (hset.own ho (fun j hj e => ?_)).lift (by simp)
    have := (World.ownsRow.lt ho j hj).1
    cases e
    simp at this
    omega
  obtain ⟨G', q1, q2, q3⟩ := h.beside bw3 ho3 hn
  refine (q1.do x ao2 c2 hok q2 hf hlog).mono ?_
  rintro e w' ⟨hv, F', p1, p2, p3⟩
  refine ⟨hv, F', G', p1, fun k hk => ?_, q3, ((Only.ofBelow bw3).mono (D := F) (fun _ _ d => d.elim)).trans p2 (fun _ _ h => h)⟩
  rcases p3 k hk with q | q
  · exact .inl q
  · exact .inr (Nat.le_trans bw3.size q)

set_option maxHeartbeats 2000000 in
set_option maxRecDepth 100000 in
theorem rcut_yes (h : RD F G w R cap beg log) (n : Nat) (hn : n ≤ log.length) (hll : log.length < 1000000) :
    Calls Try.prog 35 #[.pointer (some ⟨R, 0, none⟩), .int .i64 n] w fun e w' => ∃ C Fc Gc, e = .returned (.tuple #[.pointer (some ⟨C, 0, none⟩), .int .i64 0]) ∧ RD Fc Gc w' C cap beg (log.take n) ∧ (∀ k, Fc k → w.heap.size ≤ k) ∧ (∀ k, Gc k → w.heap.size ≤ k) ∧ Below w.heap.size w w' := by
  obtain ⟨x0, c0, x1, c1, va, vb, vl, xs, h0, h1, h2, h3, h4, h5, h6, h7, kr0, kr1, _, _, hl, hi⟩ := h.look
  have hp := h.pos
  have hm := h.most
  have hfb := h.fits.begin
  have he : ofE cap beg.u beg.a0 beg.a1 = 0 := by
    unfold ofE
    have a1 := hfb.l0
    have a2 := hfb.l1
    have a3 := hfb.u
    rw [if_neg (by omega), if_neg (by omega)]
  have bd : Below w.heap.size w w.drew := (Below.refl _ w).drew
  have hof := rof_yes cap beg.u x0 x1 c0 c1 beg.a0 beg.a1 w.drew he (kr0.rd.below bd) (kr1.rd.below bd) kr0.nil kr1.nil hfb.b0 hfb.b1
  have hS0 : w.drew.cell? ⟨R, 0, none⟩ = some (.int .i64 cap) ∧ w.drew.cell? ⟨R, 2, none⟩ = some (.int .i64 beg.u) ∧ w.drew.cell? ⟨R, 5, none⟩ = some (.slice x0 beg.a0.length c0) ∧ w.drew.cell? ⟨R, 6, none⟩ = some (.slice x1 beg.a1.length c1) := ⟨h0, h2, h5, h6⟩
  obtain ⟨lo, lc, rfl, hlo, _⟩ := row_form hl
  have hd : decide ((n : Int) < 0) = false := by simp
  have hd2 : decide ((log.length : Int) < (n : Int)) = false := by simp; omega
  have hd3 : decide (log.length < n) = false := by simp; omega
  have H := hide h
  clear h hl hi kr0 kr1 he
  go_enter Try.func35, Try.ntmps35
  go_wp2
  refine wp_region_held_drew (S := (fun w' => w'.cell? ⟨R, 0, none⟩ = some (.int .i64 cap) ∧ w'.cell? ⟨R, 2, none⟩ = some (.int .i64 beg.u) ∧ w'.cell? ⟨R, 5, none⟩ = some (.slice x0 beg.a0.length c0) ∧ w'.cell? ⟨R, 6, none⟩ = some (.slice x1 beg.a1.length c1))) (by kernel_rfl) (by exact hS0) (fun hHeld => ?_)
  try dsimp only at hHeld
  refine take_op (i := 0) (d := 24) (OP := Op.move (Operand.tmp 0)) (T := 32) (v := ?vq1x) rfl rfl rfl rfl (by kernel_rfl) (by kernel_rfl) (by kernel_rfl) (fun _ _ _ h => h) (by rfl) ?hq1x hHeld ?rq1x
  case hq1x => (intro w' hSw; (try dsimp only at hSw); go_simp <;> with_reducible rfl)
  try simp only [Act.put, List.setIfInBounds_toArray, List.set_cons_zero, List.set_cons_succ]
  refine take_op (i := 1) (d := 25) (OP := Op.nilCheck (Operand.tmp 24)) (T := 0) (v := ?vq2x) rfl rfl rfl rfl (by kernel_rfl) (by kernel_rfl) (by kernel_rfl) (fun _ _ _ h => h) (by rfl) ?hq2x hHeld ?rq2x
  case hq2x => (intro w' hSw; (try dsimp only at hSw); go_simp <;> with_reducible rfl)
  try simp only [Act.put, List.setIfInBounds_toArray, List.set_cons_zero, List.set_cons_succ]
  refine take_op (i := 2) (d := 26) (OP := Op.fieldAddr 70 (Operand.tmp 25) 0) (T := 0) (v := ?vq3x) rfl rfl rfl rfl (by kernel_rfl) (by kernel_rfl) (by kernel_rfl) (fun _ _ _ h => h) (by rfl) ?hq3x hHeld ?rq3x
  case hq3x => (intro w' hSw; (try dsimp only at hSw); go_simp <;> with_reducible rfl)
  try simp only [Act.put, List.setIfInBounds_toArray, List.set_cons_zero, List.set_cons_succ]
  refine take_op (i := 3) (d := 27) (OP := Op.load 3 (Operand.tmp 26)) (T := 3) (v := ?vq4x) rfl rfl rfl rfl (by kernel_rfl) (by kernel_rfl) (by kernel_rfl) (fun _ _ _ h => h) (by rfl) ?hq4x hHeld ?rq4x
  case hq4x => (intro w' hSw; (try dsimp only at hSw); go_simp <;> with_reducible rfl)
  try simp only [Act.put, List.setIfInBounds_toArray, List.set_cons_zero, List.set_cons_succ]
  refine take_op (i := 4) (d := 28) (OP := Op.move (Operand.tmp 0)) (T := 32) (v := ?vq5x) rfl rfl rfl rfl (by kernel_rfl) (by kernel_rfl) (by kernel_rfl) (fun _ _ _ h => h) (by rfl) ?hq5x hHeld ?rq5x
  case hq5x => (intro w' hSw; (try dsimp only at hSw); go_simp <;> with_reducible rfl)
  try simp only [Act.put, List.setIfInBounds_toArray, List.set_cons_zero, List.set_cons_succ]
  refine take_op (i := 5) (d := 29) (OP := Op.nilCheck (Operand.tmp 28)) (T := 0) (v := ?vq6x) rfl rfl rfl rfl (by kernel_rfl) (by kernel_rfl) (by kernel_rfl) (fun _ _ _ h => h) (by rfl) ?hq6x hHeld ?rq6x
  case hq6x => (intro w' hSw; (try dsimp only at hSw); go_simp <;> with_reducible rfl)
  try simp only [Act.put, List.setIfInBounds_toArray, List.set_cons_zero, List.set_cons_succ]
  refine take_op (i := 6) (d := 30) (OP := Op.fieldAddr 70 (Operand.tmp 29) 2) (T := 0) (v := ?vq7x) rfl rfl rfl rfl (by kernel_rfl) (by kernel_rfl) (by kernel_rfl) (fun _ _ _ h => h) (by rfl) ?hq7x hHeld ?rq7x
  case hq7x => (intro w' hSw; (try dsimp only at hSw); go_simp <;> with_reducible rfl)
  try simp only [Act.put, List.setIfInBounds_toArray, List.set_cons_zero, List.set_cons_succ]
  refine take_op (i := 7) (d := 31) (OP := Op.load 3 (Operand.tmp 30)) (T := 3) (v := ?vq8x) rfl rfl rfl rfl (by kernel_rfl) (by kernel_rfl) (by kernel_rfl) (fun _ _ _ h => h) (by rfl) ?hq8x hHeld ?rq8x
  case hq8x => (intro w' hSw; (try dsimp only at hSw); go_simp <;> with_reducible rfl)
  try simp only [Act.put, List.setIfInBounds_toArray, List.set_cons_zero, List.set_cons_succ]
  refine take_op (i := 8) (d := 32) (OP := Op.move (Operand.tmp 0)) (T := 32) (v := ?vq9x) rfl rfl rfl rfl (by kernel_rfl) (by kernel_rfl) (by kernel_rfl) (fun _ _ _ h => h) (by rfl) ?hq9x hHeld ?rq9x
  case hq9x => (intro w' hSw; (try dsimp only at hSw); go_simp <;> with_reducible rfl)
  try simp only [Act.put, List.setIfInBounds_toArray, List.set_cons_zero, List.set_cons_succ]
  refine take_op (i := 9) (d := 33) (OP := Op.nilCheck (Operand.tmp 32)) (T := 0) (v := ?vq10x) rfl rfl rfl rfl (by kernel_rfl) (by kernel_rfl) (by kernel_rfl) (fun _ _ _ h => h) (by rfl) ?hq10x hHeld ?rq10x
  case hq10x => (intro w' hSw; (try dsimp only at hSw); go_simp <;> with_reducible rfl)
  try simp only [Act.put, List.setIfInBounds_toArray, List.set_cons_zero, List.set_cons_succ]
  refine take_op (i := 10) (d := 34) (OP := Op.fieldAddr 70 (Operand.tmp 33) 4) (T := 0) (v := ?vq11x) rfl rfl rfl rfl (by kernel_rfl) (by kernel_rfl) (by kernel_rfl) (fun _ _ _ h => h) (by rfl) ?hq11x hHeld ?rq11x
  case hq11x => (intro w' hSw; (try dsimp only at hSw); go_simp <;> with_reducible rfl)
  try simp only [Act.put, List.setIfInBounds_toArray, List.set_cons_zero, List.set_cons_succ]
  refine take_op (i := 11) (d := 35) (OP := Op.indexAddr 55 (Operand.tmp 34) (Operand.const (Value.int IntKind.i64 0))) (T := 0) (v := ?vq12x) rfl rfl rfl rfl (by kernel_rfl) (by kernel_rfl) (by kernel_rfl) (fun _ _ _ h => h) (by rfl) ?hq12x hHeld ?rq12x
  case hq12x => (intro w' hSw; (try dsimp only at hSw); go_simp <;> with_reducible rfl)
  try simp only [Act.put, List.setIfInBounds_toArray, List.set_cons_zero, List.set_cons_succ]
  refine take_op (i := 12) (d := 36) (OP := Op.load 22 (Operand.tmp 35)) (T := 22) (v := ?vq13x) rfl rfl rfl rfl (by kernel_rfl) (by kernel_rfl) (by kernel_rfl) (fun _ _ _ h => h) (by rfl) ?hq13x hHeld ?rq13x
  case hq13x => (intro w' hSw; (try dsimp only at hSw); go_simp <;> with_reducible rfl)
  try simp only [Act.put, List.setIfInBounds_toArray, List.set_cons_zero, List.set_cons_succ]
  refine take_op (i := 13) (d := 37) (OP := Op.move (Operand.tmp 0)) (T := 32) (v := ?vq14x) rfl rfl rfl rfl (by kernel_rfl) (by kernel_rfl) (by kernel_rfl) (fun _ _ _ h => h) (by rfl) ?hq14x hHeld ?rq14x
  case hq14x => (intro w' hSw; (try dsimp only at hSw); go_simp <;> with_reducible rfl)
  try simp only [Act.put, List.setIfInBounds_toArray, List.set_cons_zero, List.set_cons_succ]
  refine take_op (i := 14) (d := 38) (OP := Op.nilCheck (Operand.tmp 37)) (T := 0) (v := ?vq15x) rfl rfl rfl rfl (by kernel_rfl) (by kernel_rfl) (by kernel_rfl) (fun _ _ _ h => h) (by rfl) ?hq15x hHeld ?rq15x
  case hq15x => (intro w' hSw; (try dsimp only at hSw); go_simp <;> with_reducible rfl)
  try simp only [Act.put, List.setIfInBounds_toArray, List.set_cons_zero, List.set_cons_succ]
  refine take_op (i := 15) (d := 39) (OP := Op.fieldAddr 70 (Operand.tmp 38) 4) (T := 0) (v := ?vq16x) rfl rfl rfl rfl (by kernel_rfl) (by kernel_rfl) (by kernel_rfl) (fun _ _ _ h => h) (by rfl) ?hq16x hHeld ?rq16x
  case hq16x => (intro w' hSw; (try dsimp only at hSw); go_simp <;> with_reducible rfl)
  try simp only [Act.put, List.setIfInBounds_toArray, List.set_cons_zero, List.set_cons_succ]
  refine take_op (i := 16) (d := 40) (OP := Op.indexAddr 55 (Operand.tmp 39) (Operand.const (Value.int IntKind.i64 1))) (T := 0) (v := ?vq17x) rfl rfl rfl rfl (by kernel_rfl) (by kernel_rfl) (by kernel_rfl) (fun _ _ _ h => h) (by rfl) ?hq17x hHeld ?rq17x
  case hq17x => (intro w' hSw; (try dsimp only at hSw); go_simp <;> with_reducible rfl)
  try simp only [Act.put, List.setIfInBounds_toArray, List.set_cons_zero, List.set_cons_succ]
  refine take_op (i := 17) (d := 41) (OP := Op.load 22 (Operand.tmp 40)) (T := 22) (v := ?vq18x) rfl rfl rfl rfl (by kernel_rfl) (by kernel_rfl) (by kernel_rfl) (fun _ _ _ h => h) (by rfl) ?hq18x hHeld ?rq18x
  case hq18x => (intro w' hSw; (try dsimp only at hSw); go_simp <;> with_reducible rfl)
  try simp only [Act.put, List.setIfInBounds_toArray, List.set_cons_zero, List.set_cons_succ]
  refine call_op (i := 18) (d := 42) (OP := Op.call { callee := Callee.value (Operand.func 9), args := #[Operand.tmp 27, Operand.tmp 31, Operand.tmp 36, Operand.tmp 41], argTypes := #[3, 3, 22, 22] }) (T := 33) (f := 9) (args := #[.int .i64 cap, .int .i64 beg.u, .slice x0 beg.a0.length c0, .slice x1 beg.a1.length c1]) rfl rfl rfl rfl (by kernel_rfl) (by rfl) (by go_simp) ?_
  refine (hof).mono ?_
  rintro e w1 ⟨C, Fc, Gc, rfl, hPC, hFc, hGc, b1⟩
  have hS1 : w1.cell? ⟨R, 0, none⟩ = some (.int .i64 cap) ∧ w1.cell? ⟨R, 2, none⟩ = some (.int .i64 beg.u) ∧ w1.cell? ⟨R, 5, none⟩ = some (.slice x0 beg.a0.length c0) ∧ w1.cell? ⟨R, 6, none⟩ = some (.slice x1 beg.a1.length c1) := ⟨(b1.cell (World.block_lt_of_cell? _ _ hHeld.1)).trans hHeld.1, (b1.cell (World.block_lt_of_cell? _ _ hHeld.2.1)).trans hHeld.2.1, (b1.cell (World.block_lt_of_cell? _ _ hHeld.2.2.1)).trans hHeld.2.2.1, (b1.cell (World.block_lt_of_cell? _ _ hHeld.2.2.2)).trans hHeld.2.2.2⟩
  refine ⟨_, rfl, hS1, ?_⟩
  replace hHeld := hS1
  try simp only [Act.put, List.setIfInBounds_toArray, List.set_cons_zero, List.set_cons_succ]
  refine take_op (i := 19) (d := 23) (OP := Op.move (Operand.tmp 42)) (T := 33) (v := ?vq20x) rfl rfl rfl rfl (by kernel_rfl) (by kernel_rfl) (by kernel_rfl) (fun _ _ _ h => h) (by rfl) ?hq20x hHeld ?rq20x
  case hq20x => (intro w' hSw; (try dsimp only at hSw); go_simp <;> with_reducible rfl)
  try simp only [Act.put, List.setIfInBounds_toArray, List.set_cons_zero, List.set_cons_succ]
  refine take_op (i := 20) (d := 43) (OP := Op.extract (Operand.tmp 23) 0) (T := 32) (v := ?vq21x) rfl rfl rfl rfl (by kernel_rfl) (by kernel_rfl) (by kernel_rfl) (fun _ _ _ h => h) (by rfl) ?hq21x hHeld ?rq21x
  case hq21x => (intro w' hSw; (try dsimp only at hSw); go_simp <;> with_reducible rfl)
  try simp only [Act.put, List.setIfInBounds_toArray, List.set_cons_zero, List.set_cons_succ]
  refine take_op (i := 21) (d := 44) (OP := Op.extract (Operand.tmp 23) 1) (T := 3) (v := ?vq22x) rfl rfl rfl rfl (by kernel_rfl) (by kernel_rfl) (by kernel_rfl) (fun _ _ _ h => h) (by rfl) ?hq22x hHeld ?rq22x
  case hq22x => (intro w' hSw; (try dsimp only at hSw); go_simp <;> with_reducible rfl)
  try simp only [Act.put, List.setIfInBounds_toArray, List.set_cons_zero, List.set_cons_succ]
  refine take_op (i := 22) (d := 6) (OP := Op.assign (Operand.tmp 43)) (T := 32) (v := ?vq23x) rfl rfl rfl rfl (by kernel_rfl) (by kernel_rfl) (by kernel_rfl) (fun _ _ _ h => h) (by rfl) ?hq23x hHeld ?rq23x
  case hq23x => (intro w' hSw; (try dsimp only at hSw); go_simp <;> with_reducible rfl)
  try simp only [Act.put, List.setIfInBounds_toArray, List.set_cons_zero, List.set_cons_succ]
  refine take_op (i := 23) (d := 7) (OP := Op.assign (Operand.tmp 44)) (T := 3) (v := ?vq24x) rfl rfl rfl rfl (by kernel_rfl) (by kernel_rfl) (by kernel_rfl) (fun _ _ _ h => h) (by rfl) ?hq24x hHeld ?rq24x
  case hq24x => (intro w' hSw; (try dsimp only at hSw); go_simp <;> with_reducible rfl)
  try simp only [Act.put, List.setIfInBounds_toArray, List.set_cons_zero, List.set_cons_succ]
  refine wpAnyH_done (by kernel_rfl) ?_ _
  have hPC0 : RD Fc Gc w1 C cap beg [] := hPC
  have b1' : Below w.heap.size w w1 := ⟨b1.os, b1.tape, b1.output, b1.size, b1.block⟩
  have hFc' : ∀ k, Fc k → w.heap.size ≤ k := hFc
  have hGc' : ∀ k, Gc k → w.heap.size ≤ k := hGc
  clear hof hPC hFc hGc b1 hS1 hHeld hS0
  go_wp2
  go_loopw [8] (fun i wr => ∃ (k : Nat) (Fk Gk : Nat → Prop), k ≤ n ∧ i = .int .i64 k ∧ RD Fk Gk wr C cap beg (log.take k) ∧ (∀ j, Fk j → w.heap.size ≤ j) ∧ (∀ j, Gk j → w.heap.size ≤ j) ∧ Below w.heap.size w wr) (fun i _ => n - (intOf i).toNat)
  case atStart => exact ⟨0, Fc, Gc, Nat.zero_le _, rfl, hPC0, hFc', hGc', b1'⟩
  case round =>
    obtain ⟨k, Fk, Gk, hk, rfl, hPk, hFk, hGk, hbk⟩ := hrel
    clear hPC0 hFc' hGc' b1'
    by_cases hlt : k < n
    · obtain ⟨x, hx⟩ : ∃ x, log[k]? = some x := ⟨_, List.getElem?_eq_getElem (by omega)⟩
      have hfits := H.out.fits
      have hok := hide (hfits.2 x (List.mem_of_getElem? hx))
      have hts : log.take (k + 1) = log.take k ++ [x] := by
        obtain ⟨hk, rfl⟩ := List.getElem?_eq_some_iff.1 hx
        exact List.take_succ_eq_append_getElem hk
      have hfit : Hid (Fit cap (play (plays beg (log.take k)) x)) := by
        have := hfits.1 (k + 1) (by omega)
        rw [hts, plays_snoc] at this
        exact this
      obtain ⟨_, _, _, _, _, _, vl, xs, _, _, _, _, _, _, _, j7, _, _, _, _, jl, ji⟩ := (H.out.below hbk).look
      have e7 : wr.cell? ⟨R, 7, none⟩ = some (.slice lo log.length lc) := (hbk.cell (World.block_lt_of_cell? w _ h7)).trans h7
      rw [e7] at j7
      cases j7
      obtain ⟨ao, c, i1, i2, i3, hG⟩ := ji.at hx
      cases lo with
      | none =>
        exfalso
        rcases jl.2 with ⟨_, q⟩ | ⟨_, _, _, q, _⟩
        · omega
        · simp at q
      | some a =>
        obtain ⟨g, rfl⟩ := hlo _ rfl
        have j1 := World.ownsRow.cells jl (g := g) rfl _ _ i1
        have j2 := World.ownsRow.cells jl (g := g) rfl _ _ i2
        have j3 := World.ownsRow.cells jl (g := g) rfl _ _ i3
        rw [add_lit, Nat.zero_add, Nat.mul_comm] at j1 j2 j3
        have hki : (k : Int) < (log.length : Int) := by omega
        have hk0 : (0 : Int) ≤ (k : Int) := by omega
        have hdn : decide (k < n) = true := by simpa using hlt
        have bA : Below wr.heap.size wr (wr.alloc (.cells #[.int .i64 x.kind, .int .i64 x.area, .slice ao x.data.length c] 50)) := (Below.refl _ wr).alloc (Nat.le_refl _) _
        have hcp := rcopy_any ao c x.data _ (hG.rd.below bA) hG.nil (by have := hok.out.len; omega)
        have HPk := hide hPk
        have HX := hide (And.intro hFk (And.intro hGk (And.intro hbk hts)))
        have hlk : (log.take k).length < 1000000 := by simp; omega
        clear hPk hFk hGk hbk hts hx hG jl ji i1 i2 i3 hfits
        go_wp2_with (first
          | (go_at_call 28; refine hcp.mono ?_; rintro e w2 ⟨ao2, c2, rfl, ho2, hn2, b2⟩; have hc2 := hide ((b2.block _ (by simp)).trans (heap_alloc_new wr _)); obtain ⟨g0, g1, g2, g3, g4, g5⟩ := blk3 hc2.out)
          | (go_at_call 42; refine (rcut_do HPk.out bA b2 ho2 hn2 hc2.out hok.out hfit.out hlk).mono ?_; rintro e w3 ⟨⟨v, rfl⟩, F3, G3, hP3, hF3, hG3, b3⟩))
        go_roundw
        case rel =>
          obtain ⟨hFk, hGk, hbk, hts⟩ := HX.out
          have hs := hbk.size
          refine ⟨k + 1, F3, G3, by omega, by go_num, by rw [hts]; exact hP3, fun j hj => ?_, fun j hj => ?_, hbk.trans ?_⟩
          · rcases hF3 j hj with q | q
            · exact hFk j q
            · omega
          · rcases hG3 j hj with q | q
            · exact hGk j q
            · omega
          · exact b3.below hs (fun j hj => hFk j hj)
        case measure => simp [intOf]; omega
    · obtain rfl : k = n := by omega
      have hdn : decide (k < k) = false := by simp
      go_wp2
      go_ret2
      exact ⟨C, Fk, Gk, rfl, hPk, hFk, hGk, hbk⟩
end
end Go.Proofs.Ytfaceimamipbpaa
