/-
  OPS, forms: ops.Read 23, whole[Op] 65.
  OPS: the document's Read 28 and ReadAll 29.
  OPS: the document's words 77.
-/
import Derived.Test.YtpepgoelnagoaaaGreatDoorMg17
import Derived.Test.YtpepgoelnagoaaaGreatDoorDtB
import Derived.Test.YtpepgoelnagoaaaGreatDoorMg19
namespace Go.Proofs.YtpepgoelnagoaaaGreatDoor
open Go.RowKit Go.Shelf
variable {K : Nat → Prop}
set_option linter.unusedSimpArgs false
set_option linter.unusedVariables false
attribute [local go_sem] Oper.semAt_some

/-- What reading one operation answers. -/
def readF (l : List Int) : Od × Int := if (ropF l).2.1 = 0 ∧ (ropF l).2.2 = [] then ((ropF l).1, 0) else (odZ, 4)
theorem fin6a {w W : World} {N B : Nat} {pa : Option Addr} {pc : Nat} {L : List ByteArray} {a' b' c' d' e' f' : Value} (h : Os W B (.slice pa L.length pc) L) (hN : N < B) :
    Os ((((((W.setCell ⟨N, 0, none⟩ a').setCell ⟨N, 1, none⟩ b').setCell ⟨N, 2, none⟩ c').setCell ⟨N, 3, none⟩ d').setCell ⟨N, 4, none⟩ e').setCell ⟨N, 5, none⟩ f') N (.slice pa L.length pc) L :=
  row_lift (h.only only6 (fun j hj hd => by have := (World.ownsRow.lt h j hj).1; omega)) (by omega)
theorem fin6b {w W : World} {N : Nat} {a' b' c' d' e' f' : Value} (hb : Below w.heap.size w W) (hN : w.heap.size ≤ N) :
    Below w.heap.size w ((((((W.setCell ⟨N, 0, none⟩ a').setCell ⟨N, 1, none⟩ b').setCell ⟨N, 2, none⟩ c').setCell ⟨N, 3, none⟩ d').setCell ⟨N, 4, none⟩ e').setCell ⟨N, 5, none⟩ f') :=
  hb.trans (only6.below hb.size (fun j hj => by omega))

set_option maxHeartbeats 4000000 in
set_option maxRecDepth 100000 in
theorem read65_any (ao : Option Addr) (cap n : Nat) (l : List Int) (w : World) (hn : l.length = n) (hr : Rd w ao l) (hnil : ao = none → cap = 0) (hl : l.length ≤ 140737488355328) (h8 : ∀ x ∈ l, 0 ≤ x ∧ x ≤ 255) (hE : EnvO w) :
    Calls Tryz.prog 65 #[.slice ao n cap, .func (.func 26) #[] #[]] w fun e w' => ∃ pa pc, e = .returned (.tuple #[odv pa (readF l).1.p.length pc (readF l).1, .int .i64 (readF l).2]) ∧ Os w' w.heap.size (.slice pa (readF l).1.p.length pc) (readF l).1.p ∧ Below w.heap.size w w' := by
  obtain ⟨w1, hw1⟩ : ∃ r, r = w.alloc (.cells (oc6 (.slice none 0 0) 0 ⟨#[]⟩ 0 0 ⟨#[]⟩) 34) := ⟨_, rfl⟩
  have b1 : Below w.heap.size w w1 := by rw [hw1]; exact (Below.refl _ w).alloc (Nat.le_refl _) _
  have m1 : w1.heap[w.heap.size]? = some (.cells (oc6 (.slice none 0 0) 0 ⟨#[]⟩ 0 0 ⟨#[]⟩) 34 (0, 0)) := by rw [hw1]; exact heap_alloc_new _ _
  have s1 : w1.heap.size = w.heap.size + 1 := by rw [hw1]; simp
  have k25 := open_any ao cap n l w1 hn (hr.below b1) hnil hl h8
  have hA : readF l = if (ropF l).2.1 = 0 ∧ (ropF l).2.2 = [] then ((ropF l).1, 0) else (odZ, 4) := rfl
  obtain ⟨X, hX⟩ : ∃ r, r = readF l := ⟨_, rfl⟩
  rw [← hX] at hA ⊢
  obtain ⟨Z, hZ⟩ : ∃ r, r = ropF l := ⟨_, rfl⟩
  rw [← hZ] at hA
  have HA := hide (And.intro hA hZ)
  have HW := hide (And.intro hw1 (And.intro b1 (And.intro m1 (And.intro s1 (And.intro hE hl)))))
  clear hX hA hZ hr hn hnil hl h8 hE hw1 b1 m1 s1
  obtain ⟨⟨p, k, ks, d, nn, t⟩, er, q⟩ := Z
  go_enter Tryz.func65, Tryz.ntmps65
  go_upto_region 1 with fail
  rw [← HW.out.1]
  go_upto_region 2 with (go_at_call 25; refine k25.mono ?_; rintro e w2 ⟨R, rfl, hR1, gR, gs, hb1⟩; have H2 := hide (And.intro hR1 (And.intro gR (And.intro gs hb1))); clear hR1 gR gs hb1 k25)
  have k26 := take26_any R (R + 1) l w2 H2.out.1 HW.out.2.2.2.2.2 (by have := H2.out.2.2.1; omega) (HW.out.2.2.2.2.1.below (HW.out.2.1.trans (H2.out.2.2.2.mono HW.out.2.1.size)))
  rw [← HA.out.2] at k26
  dsimp only at k26
  go_upto_region 3 with (go_at_call 26; refine k26.mono ?_; rintro e w3 ⟨pa, pc, rfl, hos, hR3, hg3, -⟩; have H3 := hide (And.intro hos (And.intro hR3 hg3)); clear hos hR3 hg3 k26)
  obtain ⟨w4, hw4⟩ : ∃ r, r = w3.alloc (.cells (oc6 (.slice pa p.length pc) k ks d nn t) 34) := ⟨_, rfl⟩
  rw [← hw4]
  have d4 : Below w3.heap.size w3 w4 := by rw [hw4]; exact (Below.refl _ _).alloc (Nat.le_refl _) _
  have m4 : w4.heap[w3.heap.size]? = some (.cells (oc6 (.slice pa p.length pc) k ks d nn t) 34 (0, 0)) := by rw [hw4]; exact heap_alloc_new _ _
  have s4 : w4.heap.size = w3.heap.size + 1 := by rw [hw4]; simp
  have o3 := only_grown H3.out.2.2
  have z3 := o3.size
  have HF : Hid (w4.heap[w.heap.size]? = some (.cells (oc6 (.slice none 0 0) 0 ⟨#[]⟩ 0 0 ⟨#[]⟩) 34 (0, 0)) ∧ Below w.heap.size w w4 ∧ Rdr (fun _ => True) 77 w4 R (R + 1) q ∧ Os w4 w2.heap.size (.slice pa p.length pc) p ∧ w.heap.size < w2.heap.size) := hide (by
    have g1 := H2.out.2.1
    have g2 := H2.out.2.2.1
    have hb2 := H2.out.2.2.2
    obtain ⟨-, b1, m1, s1, -, -⟩ := HW.out
    have b12 := b1.trans (hb2.mono b1.size)
    refine ⟨(d4.block _ (by omega)).trans ((o3.block _ (by omega) (by omega)).trans ((hb2.block _ (by omega)).trans m1)), (b12.trans (o3.below (by omega) (fun j hj => by omega))).trans (d4.mono (by omega)), H3.out.2.1.below (d4.mono (by omega)), H3.out.1.below d4, by omega⟩)
  obtain ⟨⟨x0, x1, x2, x3, x4, x5⟩, -, -, -, -, -, -⟩ := blk6 m4
  obtain ⟨⟨z0, z1, z2, z3', z4, z5⟩, h0, h1, h2, h3, h4, h5⟩ := blk6 HF.out.1
  have k69 := end_any R (R + 1) q w4 HF.out.2.2.1
  have M4 := hide m4
  clear o3 z3 hw4 d4 m4 s4
  by_cases hz : er = 0 ∧ q = []
  · obtain ⟨rfl, rfl⟩ := hz
    have HXX : Hid (X = (⟨p, k, ks, d, nn, t⟩, 0)) := hide (by have := HA.out.1; simpa using this)
    have hee : endE [] = 0 := rfl
    rw [hee] at k69
    go_wp2_with (go_at_call 69; refine k69.mono ?_; rintro e wm ⟨rfl, hm⟩; have hm := hm.symm; subst hm)
    refine ret_row_tmp w.heap.size (oc6 (.slice pa p.length pc) k ks d nn t).toList rfl rfl rfl Tryz.underlying34 rfl Tryz.info34z (set6 HF.out.1) rfl ?_
    rw [HXX.out]
    exact ⟨pa, pc, rfl, fin6a (w := w) HF.out.2.2.2.1 HF.out.2.2.2.2, fin6b HF.out.2.1 (Nat.le_refl _)⟩
  · have HXX : Hid (X = (odZ, 4)) := hide (by have := HA.out.1; rw [if_neg hz] at this; exact this)
    obtain ⟨w5, hw5⟩ : ∃ r, r = w4.alloc (.cells (oc6 (.slice none 0 0) 0 ⟨#[]⟩ 0 0 ⟨#[]⟩) 34) := ⟨_, rfl⟩
    have d5 : Below w4.heap.size w4 w5 := by rw [hw5]; exact (Below.refl _ _).alloc (Nat.le_refl _) _
    have m5 : w5.heap[w4.heap.size]? = some (.cells (oc6 (.slice none 0 0) 0 ⟨#[]⟩ 0 0 ⟨#[]⟩) 34 (0, 0)) := by rw [hw5]; exact heap_alloc_new _ _
    have HG : Hid (w5.heap[w.heap.size]? = some (.cells (oc6 (.slice none 0 0) 0 ⟨#[]⟩ 0 0 ⟨#[]⟩) 34 (0, 0)) ∧ Below w.heap.size w w5) := hide ⟨(d5.block _ (Array.getElem?_eq_some_iff.1 HF.out.1).1).trans HF.out.1, HF.out.2.1.trans (d5.mono HF.out.2.1.size)⟩
    have HW5 := hide (And.intro hw5 m5)
    clear hw5 d5 m5 x0 x1 x2 x3 x4 x5 z0 z1 z2 z3' z4 z5 h0 h1 h2 h3 h4 h5
    by_cases her : er = 0
    · subst her
      have hq : q ≠ [] := fun h => hz ⟨rfl, h⟩
      have hee : endE q = 4 := if_neg hq
      rw [hee] at k69
      clear hz hq hee
      go_upto_region 5 with (go_at_call 69; refine k69.mono ?_; rintro e wm ⟨rfl, hm⟩; have hm := hm.symm; subst hm)
      rw [← HW5.out.1]
      obtain ⟨⟨x0, x1, x2, x3, x4, x5⟩, -, -, -, -, -, -⟩ := blk6 HW5.out.2
      obtain ⟨⟨z0, z1, z2, z3', z4, z5⟩, h0, h1, h2, h3, h4, h5⟩ := blk6 HG.out.1
      go_wp2
      refine ret_row_tmp w.heap.size (oc6 (.slice none 0 0) 0 ⟨#[]⟩ 0 0 ⟨#[]⟩).toList rfl rfl rfl Tryz.underlying34 rfl Tryz.info34z (set6 HG.out.1) rfl ?_
      rw [HXX.out]
      exact ⟨none, 0, rfl, Os.nil _ _, fin6b HG.out.2 (Nat.le_refl _)⟩
    · have her1 : (er != 0) = true := by simpa using her
      clear hz her k69
      go_upto_region 5 with fail
      rw [← HW5.out.1]
      obtain ⟨⟨x0, x1, x2, x3, x4, x5⟩, -, -, -, -, -, -⟩ := blk6 HW5.out.2
      obtain ⟨⟨z0, z1, z2, z3', z4, z5⟩, h0, h1, h2, h3, h4, h5⟩ := blk6 HG.out.1
      go_wp2
      refine ret_row_tmp w.heap.size (oc6 (.slice none 0 0) 0 ⟨#[]⟩ 0 0 ⟨#[]⟩).toList rfl rfl rfl Tryz.underlying34 rfl Tryz.info34z (set6 HG.out.1) rfl ?_
      rw [HXX.out]
      exact ⟨none, 0, rfl, Os.nil _ _, fin6b HG.out.2 (Nat.le_refl _)⟩

set_option maxHeartbeats 4000000 in
set_option maxRecDepth 100000 in
theorem read23_any (ao : Option Addr) (cap n : Nat) (l : List Int) (w : World) (hn : l.length = n) (hr : Rd w ao l) (hnil : ao = none → cap = 0) (hl : l.length ≤ 140737488355328) (h8 : ∀ x ∈ l, 0 ≤ x ∧ x ≤ 255) (hE : EnvO w) :
    Calls Tryz.prog 23 #[.slice ao n cap] w fun e w' => ∃ pa pc, e = .returned (.tuple #[odv pa (readF l).1.p.length pc (readF l).1, .int .i64 (readF l).2]) ∧ Os w' w.heap.size (.slice pa (readF l).1.p.length pc) (readF l).1.p ∧ Below w.heap.size w w' := by
  obtain ⟨w1, hw1⟩ : ∃ r, r = w.alloc (.cells (oc6 (.slice none 0 0) 0 ⟨#[]⟩ 0 0 ⟨#[]⟩) 34) := ⟨_, rfl⟩
  have b1 : Below w.heap.size w w1 := by rw [hw1]; exact (Below.refl _ w).alloc (Nat.le_refl _) _
  have m1 : w1.heap[w.heap.size]? = some (.cells (oc6 (.slice none 0 0) 0 ⟨#[]⟩ 0 0 ⟨#[]⟩) 34 (0, 0)) := by rw [hw1]; exact heap_alloc_new _ _
  have s1 : w1.heap.size = w.heap.size + 1 := by rw [hw1]; simp
  have k65 := read65_any ao cap n l w1 hn (hr.below b1) hnil hl h8 (hE.below b1)
  generalize readF l = X at k65 ⊢
  obtain ⟨⟨p, k, ks, d, nn, t⟩, er⟩ := X
  dsimp only at k65 ⊢
  have HW := hide (And.intro hw1 (And.intro b1 (And.intro m1 s1)))
  clear hr hn hnil hl h8 hE hw1 b1 m1 s1
  go_enter Tryz.func23, Tryz.ntmps23
  go_upto_region 1 with fail
  rw [← HW.out.1]
  obtain ⟨⟨z0, z1, z2, z3', z4, z5⟩, h0, h1, h2, h3, h4, h5⟩ := blk6 HW.out.2.2.1
  go_wp2_with (go_at_call 65; refine k65.mono ?_; rintro e w3 ⟨pa, pc, rfl, hos, hb3⟩; have H3 := hide (And.intro hos hb3); clear hos hb3 k65 z0 z1 z2 z3' z4 z5 h0 h1 h2 h3 h4 h5; have HN2 := hide ((H3.out.2.block _ (Array.getElem?_eq_some_iff.1 HW.out.2.2.1).1).trans HW.out.2.2.1); obtain ⟨⟨z0, z1, z2, z3', z4, z5⟩, h0, h1, h2, h3, h4, h5⟩ := blk6 HN2.out)
  refine ret_row_tmp w.heap.size (oc6 (.slice pa p.length pc) k ks d nn t).toList rfl rfl rfl Tryz.underlying34 rfl Tryz.info34z (set6 HN2.out) rfl ?_
  have s1 := HW.out.2.2.2
  exact ⟨pa, pc, rfl, fin6a (w := w) H3.out.1 (by omega), fin6b (HW.out.2.1.trans (H3.out.2.mono HW.out.2.1.size)) (Nat.le_refl _)⟩
end Go.Proofs.YtpepgoelnagoaaaGreatDoor
namespace Go.Proofs.YtpepgoelnagoaaaGreatDoor
open Go.RowKit Go.Shelf
set_option linter.unusedSimpArgs false
set_option linter.unusedVariables false
attribute [local go_sem] Oper.semAt_some

theorem doc_new {ao : Option Addr} {cap : Nat} {l : List Int} {w : World} (hr : Rd w ao l) (hnil : ao = none → cap = 0) (hc : l.length ≤ cap) (hm : cap ≤ 9223372036854775807) (hz : l.length ≤ 1048576) (h8 : U8 l) :
    Doc w.heap.size (w.alloc (.cells #[.slice ao l.length cap, .int .i64 0] 56)) w.heap.size l l := by
  refine ⟨ao, cap, 0, heap_alloc_new _ _, hr.below ((Below.refl _ _).alloc (Nat.le_refl _) _), hnil, hc, hm, hz, ⟨fun hne a ha => ?_, Nat.le_refl _⟩, h8, Nat.zero_le _, by simp⟩
  cases l with
  | nil => exact absurd rfl hne
  | cons b r =>
    have := hr.2 a ha 0 (.int .u8 b) (by rw [u8s_get]; rfl)
    exact (World.block_lt_of_cell? w _ this : (a.add 0).block < w.heap.size)
set_option maxHeartbeats 4000000 in
set_option maxRecDepth 100000 in
theorem dread_any (ao : Option Addr) (cap : Nat) (l : List Int) (w : World) (hr : Rd w ao l) (hnil : ao = none → cap = 0) (hc : l.length ≤ cap) (hm : cap ≤ 9223372036854775807) (hz : l.length ≤ 1048576) (h8 : U8 l) :
    Calls Tryz.prog 28 #[.slice ao l.length cap] w fun e w' => ∃ pa pc, e = .returned (.tuple #[odv pa (readF l).1.p.length pc (readF l).1, .int .i64 (readF l).2]) ∧ Os w' w.heap.size (.slice pa (readF l).1.p.length pc) (readF l).1.p ∧ Below w.heap.size w w' := by
  obtain ⟨w1, hw1⟩ : ∃ r, r = w.alloc (.cells (oc6 (.slice none 0 0) 0 ⟨#[]⟩ 0 0 ⟨#[]⟩) 34) := ⟨_, rfl⟩
  have b1 : Below w.heap.size w w1 := by rw [hw1]; exact (Below.refl _ w).alloc (Nat.le_refl _) _
  have m1 : w1.heap[w.heap.size]? = some (.cells (oc6 (.slice none 0 0) 0 ⟨#[]⟩ 0 0 ⟨#[]⟩) 34 (0, 0)) := by rw [hw1]; exact heap_alloc_new _ _
  have s1 : w1.heap.size = w.heap.size + 1 := by rw [hw1]; simp
  have hd := doc_new (hr.below b1) hnil hc hm hz h8
  obtain ⟨w2, hw2⟩ : ∃ r, r = w1.alloc (.cells #[.slice ao l.length cap, .int .i64 0] 56) := ⟨_, rfl⟩
  rw [← hw2] at hd
  have b2 : Below w1.heap.size w1 w2 := by rw [hw2]; exact (Below.refl _ w1).alloc (Nat.le_refl _) _
  have s2 : w2.heap.size = w1.heap.size + 1 := by rw [hw2]; simp
  have k27 := dtake_any w1.heap.size l l w2 hd
  rw [dtake_is h8] at k27
  have hA : readF l = if (ropF l).2.1 = 0 ∧ (ropF l).2.2 = [] then ((ropF l).1, 0) else (odZ, 4) := rfl
  obtain ⟨X, hX⟩ : ∃ r, r = readF l := ⟨_, rfl⟩
  rw [← hX] at hA ⊢
  generalize ropF l = Z at hA k27
  have HA := hide hA
  have HW := hide (And.intro hw1 (And.intro hw2 (And.intro b1 (And.intro m1 (And.intro s1 (And.intro b2 s2))))))
  generalize l.length = N at HW
  clear hX hA hr hnil h8 hw1 hw2 b1 m1 s1 b2 s2 hd hc hm hz
  obtain ⟨⟨p, k, ks, d, nn, t⟩, er, q⟩ := Z
  dsimp only at k27
  go_enter Tryz.func28, Tryz.ntmps28
  go_upto_region 1 with fail
  rw [← HW.out.1]
  go_upto_region 2 with fail
  rw [← HW.out.2.1]
  go_upto_region 3 with (go_at_call 27; refine k27.mono ?_; rintro e w3 ⟨pa, pc, rfl, hos, hd3, ho3⟩; have H3 := hide (And.intro hos (And.intro hd3 ho3)); clear hos hd3 ho3 k27)
  obtain ⟨w4, hw4⟩ : ∃ r, r = w3.alloc (.cells (oc6 (.slice pa p.length pc) k ks d nn t) 34) := ⟨_, rfl⟩
  rw [← hw4]
  have d4 : Below w3.heap.size w3 w4 := by rw [hw4]; exact (Below.refl _ _).alloc (Nat.le_refl _) _
  have m4 : w4.heap[w3.heap.size]? = some (.cells (oc6 (.slice pa p.length pc) k ks d nn t) 34 (0, 0)) := by rw [hw4]; exact heap_alloc_new _ _
  have s4 : w4.heap.size = w3.heap.size + 1 := by rw [hw4]; simp
  have HF : Hid (w4.heap[w.heap.size]? = some (.cells (oc6 (.slice none 0 0) 0 ⟨#[]⟩ 0 0 ⟨#[]⟩) 34 (0, 0)) ∧ Below w.heap.size w w4 ∧ Doc w1.heap.size w4 w1.heap.size l q ∧ Os w4 w2.heap.size (.slice pa p.length pc) p ∧ w.heap.size < w2.heap.size) := hide (by
    obtain ⟨-, -, b1, m1, s1, b2, s2⟩ := HW.out
    have o3 := H3.out.2.2
    have z3 := o3.size
    exact ⟨(d4.block _ (by omega)).trans ((o3.block _ (by omega) (by omega)).trans ((b2.block _ (by omega)).trans m1)), ((b1.trans (b2.mono (by omega))).trans (o3.below (by omega) (fun j hj => by omega))).trans (d4.mono (by omega)), H3.out.2.1.kept (grown_of_below (row := none) d4) (by simp), H3.out.1.below d4, by omega⟩)
  obtain ⟨⟨x0, x1, x2, x3, x4, x5⟩, -, -, -, -, -, -⟩ := blk6 m4
  obtain ⟨⟨z0, z1, z2, z3', z4, z5⟩, h0, h1, h2, h3, h4, h5⟩ := blk6 HF.out.1
  have k32 : Calls Tryz.prog 32 #[.pointer (some ⟨w1.heap.size, 0, none⟩)] w4 fun e w' => e = .returned (.int .i64 q.length) ∧ Below w4.heap.size w4 w' := (dleft_any w1.heap.size l q w4 HF.out.2.2.1).mono (fun e w' h => ⟨h.1, by obtain ⟨m, hm⟩ := h.2; rw [hm]; exact Ki.below_drw (Below.refl _ _) m⟩)
  have M4 := hide m4
  clear hw4 d4 m4 s4
  by_cases her : er = 0
  · subst her
    by_cases hq : q = []
    · subst hq
      have HXX : Hid (X = (⟨p, k, ks, d, nn, t⟩, 0)) := hide (by have := HA.out; simpa using this)
      go_wp2_with (go_at_call 32; go_loud (refine k32.mono ?_; rintro e wm ⟨rfl, hbm⟩; have HBM := hide hbm; clear hbm k32; have HN2 := hide ((HBM.out.block _ (Array.getElem?_eq_some_iff.1 HF.out.1).1).trans HF.out.1); have HN4 := hide ((HBM.out.block _ (Array.getElem?_eq_some_iff.1 M4.out).1).trans M4.out); clear x0 x1 x2 x3 x4 x5 z0 z1 z2 z3' z4 z5 h0 h1 h2 h3 h4 h5; obtain ⟨⟨x0, x1, x2, x3, x4, x5⟩, -, -, -, -, -, -⟩ := blk6 HN4.out; obtain ⟨⟨z0, z1, z2, z3', z4, z5⟩, h0, h1, h2, h3, h4, h5⟩ := blk6 HN2.out))
      refine ret_row_tmp w.heap.size (oc6 (.slice pa p.length pc) k ks d nn t).toList rfl rfl rfl Tryz.underlying34 rfl Tryz.info34z (set6 HN2.out) rfl ?_
      rw [HXX.out]
      exact ⟨pa, pc, rfl, fin6a (w := w) (HF.out.2.2.2.1.below HBM.out) HF.out.2.2.2.2, fin6b (HF.out.2.1.trans (HBM.out.mono HF.out.2.1.size)) (Nat.le_refl _)⟩
    · have HXX : Hid (X = (odZ, 4)) := hide (by have := HA.out; rw [if_neg (fun h => hq h.2)] at this; exact this)
      have hp := List.length_pos_iff.2 hq
      go_wp2_with (go_at_call 32; go_loud (refine k32.mono ?_; rintro e wm ⟨rfl, hbm⟩; have HBM := hide hbm; clear hbm k32; have HN2 := hide ((HBM.out.block _ (Array.getElem?_eq_some_iff.1 HF.out.1).1).trans HF.out.1); clear x0 x1 x2 x3 x4 x5 z0 z1 z2 z3' z4 z5 h0 h1 h2 h3 h4 h5; obtain ⟨⟨z0, z1, z2, z3', z4, z5⟩, h0, h1, h2, h3, h4, h5⟩ := blk6 HN2.out))
      refine ret_row_tmp w.heap.size (oc6 (.slice none 0 0) 0 ⟨#[]⟩ 0 0 ⟨#[]⟩).toList rfl rfl rfl Tryz.underlying34 rfl Tryz.info34z (set6 HN2.out) rfl ?_
      rw [HXX.out]
      exact ⟨none, 0, rfl, Os.nil _ _, fin6b (HF.out.2.1.trans (HBM.out.mono HF.out.2.1.size)) (Nat.le_refl _)⟩
  · have her1 : (er != 0) = true := by simpa using her
    have HXX : Hid (X = (odZ, 4)) := hide (by have := HA.out; rw [if_neg (fun h => her h.1)] at this; exact this)
    clear her
    go_wp2
    refine ret_row_tmp w.heap.size (oc6 (.slice none 0 0) 0 ⟨#[]⟩ 0 0 ⟨#[]⟩).toList rfl rfl rfl Tryz.underlying34 rfl Tryz.info34z (set6 HF.out.1) rfl ?_
    rw [HXX.out]
    exact ⟨none, 0, rfl, Os.nil _ _, fin6b HF.out.2.1 (Nat.le_refl _)⟩

/-- How far operations are taken. -/
structure DlL (w1 : World) (D n : Nat) (LB q1 : List Int) (j : Nat) (L : List Ox) (q : List Int) (W : World) : Prop where
  le : j ≤ n
  len : L.length = j
  all : rlist n q1 = (L.map Prod.fst ++ (rlist (n - j) q).1, (rlist (n - j) q).2.1, (rlist (n - j) q).2.2)
  doc : Doc D W D LB q
  only : Only (fun k => k = D) w1 W
theorem DlL.next {w1 : World} {D n : Nat} {LB q1 : List Int} {j : Nat} {L : List Ox} {q : List Int} {W W' : World} {x : Ox} (h : DlL w1 D n LB q1 j L q W) (hj : j < n) (hx : x.1 = (ropF q).1) (he : (ropF q).2.1 = 0) (hd : Doc D W' D LB (ropF q).2.2) (ho : Only (fun k => k = D) w1 W') : DlL w1 D n LB q1 (j + 1) (L ++ [x]) (ropF q).2.2 W' := by
  refine ⟨hj, by simp [h.len], ?_, hd, ho⟩
  rw [h.all, show n - j = (n - (j + 1)) + 1 by omega, rlist_succ, if_pos he]
  simp [hx]
theorem DlL.bad {w1 : World} {D n : Nat} {LB q1 : List Int} {j : Nat} {L : List Ox} {q : List Int} {W : World} (h : DlL w1 D n LB q1 j L q W) (hj : j < n) (he : (ropF q).2.1 ≠ 0) : (rlist n q1).2.1 ≠ 0 := by
  rw [h.all, show n - j = (n - (j + 1)) + 1 by omega, rlist_succ, if_neg he]
  exact he
theorem rcount_rnum (q : List Int) : ((rnum q).2.1 = 0 ∧ (rnum q).1 ≤ 64 → rcount 64 q = (((rnum q).1 : Int), 0, (rnum q).2.2)) ∧ (¬ ((rnum q).2.1 = 0 ∧ (rnum q).1 ≤ 64) → (rcount 64 q).2.1 ≠ 0) := by
  rcases hr : Plain.readN 0 0 q with _ | ⟨m, k⟩
  · rw [rnum_none hr]
    refine ⟨fun h => (by cases h.1), fun _ => ?_⟩
    unfold rcount
    rw [if_neg (by omega), hr]
    simp
  · rw [rnum_some hr]
    unfold rcount
    rw [if_neg (by omega), hr]
    dsimp only
    by_cases h : (64 : Int) < (m : Int)
    · rw [if_pos h]
      exact ⟨fun hh => (by have := hh.2; omega), fun _ => (by simp)⟩
    · rw [if_neg h]
      exact ⟨fun _ => rfl, fun hh => absurd ⟨rfl, by omega⟩ hh⟩

set_option maxHeartbeats 8000000 in
set_option maxRecDepth 100000 in
theorem dreadAll_any (ao : Option Addr) (cap : Nat) (l : List Int) (w : World) (hr : Rd w ao l) (hnil : ao = none → cap = 0) (hc : l.length ≤ cap) (hm : cap ≤ 9223372036854775807) (hz : l.length ≤ 1048576) (h8 : U8 l) :
    Calls Tryz.prog 29 #[.slice ao l.length cap] w fun e w' => ∃ v, e = .returned (.tuple #[v, .int .i64 (readA l).2]) ∧ ∃ xs, xs.map Prod.fst = (readA l).1 ∧ Oq w' w.heap.size v xs ∧ Below w.heap.size w w' := by
  have hd := doc_new hr hnil hc hm hz h8
  obtain ⟨w2, hw2⟩ : ∃ r, r = w.alloc (.cells #[.slice ao l.length cap, .int .i64 0] 56) := ⟨_, rfl⟩
  rw [← hw2] at hd
  have b2 : Below w.heap.size w w2 := by rw [hw2]; exact (Below.refl _ w).alloc (Nat.le_refl _) _
  have s2 : w2.heap.size = w.heap.size + 1 := by rw [hw2]; simp
  have k71 := dnumber_any w.heap.size l l w2 hd
  have hA : readA l = if (rops l).2.1 = 0 ∧ (rops l).2.2 = [] then ((rops l).1, 0) else ([], 4) := rfl
  have hO : rops l = if (rcount 64 l).2.1 = 0 then (if (rlist (rcount 64 l).1.toNat (rcount 64 l).2.2).2.1 = 0 then rlist (rcount 64 l).1.toNat (rcount 64 l).2.2 else ([], (rlist (rcount 64 l).1.toNat (rcount 64 l).2.2).2.1, l)) else ([], (rcount 64 l).2.1, l) := rfl
  obtain ⟨hc1, hc2⟩ := rcount_rnum l
  have h64 := rnum_64 h8
  have hs1 := sub_u8 h8 (rnum_sub l)
  obtain ⟨X, hX⟩ : ∃ r, r = readA l := ⟨_, rfl⟩
  rw [← hX] at hA ⊢
  generalize rops l = O at hA hO
  generalize rnum l = Z at k71 hc1 hc2 h64 hs1
  obtain ⟨n, e1, q1⟩ := Z
  dsimp only at k71 hc1 hc2 h64 hs1
  have HB2 := hide (And.intro hw2 (And.intro b2 (And.intro s2 hs1)))
  have HA := hide (And.intro hA (And.intro hO (And.intro hc1 (And.intro hc2 h8))))
  obtain ⟨NL, hNL⟩ : ∃ r, r = l.length := ⟨_, rfl⟩
  rw [← hNL] at HB2 ⊢
  clear hX hA hO hc1 hc2 hr hnil hw2 b2 s2 hd hc hm hz h8 hNL hs1
  go_enter Tryz.func29, Tryz.ntmps29
  go_upto_region 2 with fail
  rw [← HB2.out.1]
  go_upto_region 3 with (go_at_call 71; refine k71.mono ?_; rintro e w3 ⟨rfl, hd3, hg3⟩; have H3 := hide (And.intro hd3 hg3); clear hd3 hg3 k71)
  have HB3 : Hid (Below w.heap.size w w3 ∧ w.heap.size + 1 ≤ w3.heap.size) := hide ⟨HB2.out.2.1.trans ((only_grown H3.out.2).below (by have := HB2.out.2.2.1; omega) (fun j hj => by omega)), by have := (only_grown H3.out.2).size; have := HB2.out.2.2.1; omega⟩
  by_cases hbad : e1 = 0 ∧ n ≤ 64
  case neg =>
    have HXX : Hid (X = ([], 4)) := hide (by
      obtain ⟨hA, hO, -, hc2, -⟩ := HA.out
      have h2 := hc2 hbad
      rw [if_neg h2] at hO
      rw [hA, if_neg (fun h => h2 (by have := h.1; rw [hO] at this; exact this))])
    by_cases he : e1 = 0
    · subst he
      have hn : ¬ n ≤ 64 := fun h => hbad ⟨rfl, h⟩
      have y : decide (64 < (n : Int)) = true := by simp; omega
      clear hbad hn
      go_wp2
      go_ret2
      rw [HXX.out]
      exact ⟨_, rfl, [], rfl, Oq.nil _ _, HB3.out.1⟩
    · have y : (e1 != 0) = true := by simpa using he
      clear hbad he
      go_wp2
      go_ret2
      rw [HXX.out]
      exact ⟨_, rfl, [], rfl, Oq.nil _ _, HB3.out.1⟩
  case pos =>
    obtain ⟨rfl, hn64⟩ := hbad
    have y : decide (64 < (n : Int)) = false := by simp; omega
    have HR : Hid (X = if (rlist n q1).2.1 = 0 ∧ (rlist n q1).2.2 = [] then ((rlist n q1).1, 0) else ([], 4)) := hide (by
      obtain ⟨hA, hO, hc1, -, -⟩ := HA.out
      have h1 := hc1 ⟨rfl, hn64⟩
      rw [h1] at hO
      dsimp only at hO
      rw [if_pos rfl, Int.toNat_natCast] at hO
      rw [hA, hO]
      by_cases hz : (rlist n q1).2.1 = 0
      · rw [if_pos hz]
      · rw [if_neg hz]
        dsimp only
        rw [if_neg (fun h => hz h.1), if_neg (fun h => hz h.1)])
    have HN64 := hide hn64
    clear hn64
    have hDL : DlL w3 w.heap.size n l q1 0 [] q1 w3 := ⟨Nat.zero_le _, rfl, by simp, H3.out.1, Only.refl _ _⟩
    have HDL := hide hDL
    clear hDL
    go_wp2
    clear y
    go_loopw [7, 8] (fun v7 v8 wr => ∃ (j : Nat) (xs : List Ox) (a7 : Option Addr) (c7 : Nat) (q : List Int), v7 = .slice a7 xs.length c7 ∧ v8 = .int .u64 (j : Nat) ∧ Hid (DlL w3 w.heap.size n l q1 j xs q wr) ∧ Hid (Oq wr w3.heap.size (.slice a7 xs.length c7) xs)) (fun _ v8 _ => n - (intOf v8).toNat)
    case atStart => exact ⟨0, [], none, 0, q1, rfl, rfl, HDL, hide (Oq.nil _ _)⟩
    case round =>
      obtain ⟨j, xs, a7, c7, q, rfl, rfl, HL, HO⟩ := hrel
      have hle := HL.out.le
      have HBr : Hid (Below w.heap.size w wr ∧ w3.heap.size ≤ wr.heap.size ∧ w.heap.size < w3.heap.size) := hide ⟨HB3.out.1.trans (HL.out.only.below (by have := HB3.out.2; omega) (fun j hj => by omega)), HL.out.only.size, by have := HB3.out.2; omega⟩
      by_cases hlt : j < n
      · have z : decide ((j : Int) < (n : Int)) = true := by simp; omega
        have h8q : U8 q := doc_u8 HL.out.doc
        have k27 := dtake_any w.heap.size l q wr HL.out.doc
        rw [dtake_is h8q] at k27
        have hpl := ropF_plen q
        have hnx := fun (x : Ox) (W' : World) (h1 : x.1 = (ropF q).1) (h2 : (ropF q).2.1 = 0) => HL.out.next (W' := W') (x := x) hlt h1 h2
        have hbd := HL.out.bad hlt
        generalize ropF q = Z at k27 hpl hnx hbd
        obtain ⟨o, er, q2⟩ := Z
        dsimp only at k27 hpl hnx hbd
        have HX := hide (And.intro hnx (And.intro hbd hpl))
        clear hnx hbd hpl h8q
        go_upto_region 10 with (go_at_call 27; refine k27.mono ?_; rintro e w5 ⟨pa, pc, rfl, hos, hd5, ho5⟩; have H5 := hide (And.intro hos (And.intro hd5 ho5)); clear hos hd5 ho5 k27)
        obtain ⟨p, k, ks, d, nn, t⟩ := o
        dsimp only at HX ⊢
        obtain ⟨w6, hw6⟩ : ∃ r, r = w5.alloc (.cells (oc6 (.slice pa p.length pc) k ks d nn t) 34) := ⟨_, rfl⟩
        rw [← hw6]
        have d6 : Below w5.heap.size w5 w6 := by rw [hw6]; exact (Below.refl _ _).alloc (Nat.le_refl _) _
        have m6 : w6.heap[w5.heap.size]? = some (.cells (oc6 (.slice pa p.length pc) k ks d nn t) 34 (0, 0)) := by rw [hw6]; exact heap_alloc_new _ _
        obtain ⟨⟨x0, x1, x2, x3, x4, x5⟩, f0, f1, f2, f3, f4, f5⟩ := blk6 m6
        have o6 : Only (fun k => k = w.heap.size) wr w6 := H5.out.2.2.trans (Ki.below_only d6) (fun _ _ e => e)
        have D6 := hide (And.intro d6 o6)
        clear d6 hw6 m6 o6
        by_cases her : er = 0
        · subst her
          have hgt := HBr.out.2.2
          have hO6 : Oq w6 w3.heap.size (.slice a7 xs.length c7) xs := HO.out.only D6.out.2 (fun k hk => by omega)
          have hpath : Os w6 w3.heap.size (.slice pa p.length pc) p := row_lift (H5.out.1.below D6.out.1) HBr.out.2.1
          have hlen1 : xs.length + 1 ≤ 1000000 := by have := HL.out.len; have := HN64.out; omega
          have d7 : Below w6.heap.size w6 (w6.alloc (.cells (oc6 (.slice pa p.length pc) k ks d nn t) 34)) := (Below.refl _ _).alloc (Nat.le_refl _) _
          obtain ⟨v8, w8, hr8, hO8, hg8, hb8⟩ := push_op (x := (⟨p, k, ks, d, nn, t⟩, pa, pc)) (hO6.below d7) (hpath.below d7) HX.out.2.2 (heap_alloc_new w6 (.cells (oc6 (.slice pa p.length pc) k ks d nn t) 34)) hlen1 (Nat.le_trans HBr.out.2.1 (Nat.le_trans D6.out.2.size d7.size))
          obtain ⟨a8, c8, hv8, -, -, -, -⟩ := hO8.shape
          subst hv8
          have hne : ∀ j, Value.ownBlock (.slice a7 xs.length c7) = some j → w3.heap.size ≤ j := fun j hj => (World.ownsRow.lt hO6.row j hj).1
          have hdoc8 : Doc w.heap.size w8 w.heap.size l q2 := ((H5.out.2.1.kept (grown_of_below (row := none) D6.out.1) (by simp)).kept (grown_of_below (row := none) d7) (by simp)).kept hg8 (fun k hk => by have := hne k hk; omega)
          have ho8 : Only (fun k => k = w.heap.size) w3 w8 := ((HL.out.only.trans D6.out.2 (fun _ _ e => e)).trans (Ki.below_only d7) (fun _ _ e => e)).trans (Only.ofGrown hg8) (fun j hj e => by have := hne j e; omega)
          have hnext := HX.out.1 (⟨p, k, ks, d, nn, t⟩, pa, pc) w8 rfl rfl hdoc8 ho8
          have HNx := hide (And.intro hnext hO8)
          clear hnext hO8 hdoc8 ho8 hne hO6 hpath hlen1 d7 hb8 hg8 hgt
          go_upto_region 12 with fail
          go_wp2_with (at_builtin; refine wpList_turn (OP := .call { callee := .builtin .append, args := #[.tmp 37, .tmp 39], argTypes := #[22, 22] }) (T := 22) rfl rfl rfl (exec_append rfl rfl hr8) ?_; clear hr8)
          go_roundw
          case rel => exact ⟨j + 1, xs ++ [(⟨p, k, ks, d, nn, t⟩, pa, pc)], a8, c8, q2, by simp, by go_num, hide HNx.out.1, hide HNx.out.2⟩
          case measure => simp [intOf]; omega
        · have her1 : (er != 0) = true := by simpa using her
          have HXX : Hid (X = ([], 4)) := hide (by rw [HR.out]; exact if_neg (fun h => HX.out.2.1 her h.1))
          clear her
          go_wp2
          go_ret2
          rw [HXX.out]
          exact ⟨_, rfl, [], rfl, Oq.nil _ _, HBr.out.1.trans (D6.out.2.below HBr.out.1.size (fun j hj => by omega))⟩
      · have hj : n ≤ j := by omega
        have hjn : n - j = 0 := by omega
        have hall := HL.out.all
        rw [hjn] at hall
        have z : decide ((j : Int) < (n : Int)) = false := by simp; omega
        have k32 : Calls Tryz.prog 32 #[.pointer (some ⟨w.heap.size, 0, none⟩)] wr fun e w' => e = .returned (.int .i64 q.length) ∧ Below wr.heap.size wr w' := (dleft_any w.heap.size l q wr HL.out.doc).mono (fun e w' h => ⟨h.1, by obtain ⟨m, hm⟩ := h.2; rw [hm]; exact Ki.below_drw (Below.refl _ _) m⟩)
        have hall2 : rlist n q1 = (xs.map Prod.fst, 0, q) := by rw [hall]; show (xs.map Prod.fst ++ [], (0 : Int), q) = _; rw [List.append_nil]
        have HR2 : Hid (X = if q = [] then (xs.map Prod.fst, 0) else ([], 4)) := hide (by rw [HR.out, hall2]; simp)
        clear hj hjn hall hall2
        by_cases hq : q = []
        · subst hq
          have HXX : Hid (X = (xs.map Prod.fst, 0)) := hide (by rw [HR2.out, if_pos rfl])
          go_wp2_with (go_at_call 32; refine k32.mono ?_; rintro e wm ⟨rfl, hbm⟩; have HBM := hide hbm; clear hbm k32)
          go_ret2
          rw [HXX.out]
          exact ⟨_, rfl, xs, rfl, (HO.out.below HBM.out).lift (Nat.le_of_lt HBr.out.2.2), HBr.out.1.trans (HBM.out.mono HBr.out.1.size)⟩
        · have HXX : Hid (X = ([], 4)) := hide (by rw [HR2.out, if_neg hq])
          have hp := List.length_pos_iff.2 hq
          go_wp2_with (go_at_call 32; refine k32.mono ?_; rintro e wm ⟨rfl, hbm⟩; have HBM := hide hbm; clear hbm k32)
          go_ret2
          rw [HXX.out]
          exact ⟨_, rfl, [], rfl, Oq.nil _ _, HBr.out.1.trans (HBM.out.mono HBr.out.1.size)⟩
end Go.Proofs.YtpepgoelnagoaaaGreatDoor
namespace Go.Proofs.YtpepgoelnagoaaaGreatDoor
open Go.RowKit Go.Shelf
set_option linter.unusedSimpArgs false
set_option linter.unusedVariables false

/-- The pieces of a text between its blanks, behind cur. -/
def pieces32 : List UInt8 → List UInt8 → List (List UInt8)
  | cur, [] => [cur]
  | cur, b :: t => if b = 32 then cur :: pieces32 [] t else pieces32 (cur ++ [b]) t
/-- The words of a text, nine at most. -/
def wdsB (s : ByteArray) : List ByteArray := keysOf ((pieces32 [] s.data.toList).take 9)

set_option maxHeartbeats 2000000 in
set_option maxRecDepth 100000 in
theorem words77_any (s : ByteArray) (w : World) (hs : s.size ≤ 1000000) : Calls Tryz.prog 77 #[.string s] w fun e w' => ∃ v, e = .returned v ∧ Os w' w.heap.size v (wdsB s) ∧ Below w.heap.size w w' := by
  obtain ⟨i0, hi, hz0, hz1, hz2⟩ := info_parts Tryz.info9
  have hl : s.data.toList.length = s.size := (Lib.size_eq s).symm
  obtain ⟨F, hF⟩ : ∃ F, F = pieces32 [] s.data.toList := ⟨_, rfl⟩
  have HF := hide hF
  have HR : Hid (wdsB s = keysOf (F.take 9)) := hide (by rw [hF]; rfl)
  clear hF
  go_enter Tryz.func77, Tryz.ntmps77
  go_wp2
  go_loopw [3, 4, 5] (fun v3 v4 v5 wr => ∃ (i at' : Nat) (acc : List (List UInt8)), v4 = .int .i64 at' ∧ v5 = .int .i64 i ∧ i ≤ s.size + 1 ∧ at' ≤ i + 1 ∧ acc.length ≤ 9 ∧ Hid (Os wr w.heap.size v3 (keysOf acc)) ∧ Hid ((i ≤ s.size ∧ at' ≤ i ∧ acc ++ pieces32 ((s.data.toList.drop at').take (i - at')) (s.data.toList.drop i) = F) ∨ (i = s.size + 1 ∧ acc = F)) ∧ Hid (Below w.heap.size w wr)) (fun _ _ v5 _ => s.size + 1 - (intOf v5).toNat)
  case atStart => exact ⟨0, 0, [], rfl, rfl, by omega, by omega, by simp, hide (Os.nil _ _), hide (.inl ⟨by omega, by omega, by rw [HF.out]; simp⟩), hide (Below.refl _ _)⟩
  case round =>
    obtain ⟨i, at', acc, rfl, rfl, his, hat, hacc, HO, HP, HW⟩ := hrel
    obtain ⟨ao, cc, hv3, -, -, -, -⟩ := HO.out.shape
    rw [keysOf_length] at hv3
    subst hv3
    have hsz := HW.out.size
    by_cases hgo : i ≤ s.size ∧ acc.length < 9
    · obtain ⟨g1, g2⟩ := hgo
      have z1 : (i : Int) ≤ (s.size : Int) := by omega
      have z2 : (acc.length : Int) < 9 := by omega
      obtain ⟨-, hai, hpc⟩ : i ≤ s.size ∧ at' ≤ i ∧ acc ++ pieces32 ((s.data.toList.drop at').take (i - at')) (s.data.toList.drop i) = F := by
        rcases HP.out with h | h
        · exact h
        · omega
      have a1 : (0 : Int) ≤ (at' : Int) := by omega
      have a2 : (at' : Int) ≤ (i : Int) := by omega
      have hext := ext_mid s at' i
      obtain ⟨cur, hcur⟩ : ∃ cur, cur = (s.data.toList.drop at').take (i - at') := ⟨_, rfl⟩
      rw [← hcur] at hext hpc
      have HX := hide (And.intro hpc hcur)
      clear hpc hcur HP
      have hO := HO.out
      have q1 : ∀ (j : Nat) (u : Value), [Value.string ⟨cur.toArray⟩][j]? = some u → (wr.alloc (.cells #[.string ⟨cur.toArray⟩] 9)).cell? ((⟨wr.heap.size, 0, none⟩ : Addr).add j) = some u := fun j u hj => by
        match j, hj with
        | 0, hj => simp at hj; subst hj; simp [Addr.add]
      have HQ := hide (And.intro q1 (show (keysOf acc).length + 1 ≤ maxLen ∧ ((keysOf acc).length + 1) * 16 ≤ 140737488355328 by unfold maxLen; rw [keysOf_length]; omega))
      clear q1
      by_cases hend : i = s.size
      · have hE : acc ++ [cur] = F := by
          have := HX.out.1
          rw [List.drop_eq_nil_of_le (by omega), pieces32] at this
          exact this
        have HE := hide hE
        clear hE
        subst hend
        go_wp2_with (at_builtin; refine wpList_append_own _ rfl _ _ 30 rfl w.heap.size 9 i0 (.string ⟨#[]⟩) 1 16 Tryz.underlying30 hi hz0 hz1 hz2 rfl (by decide) _ _ _ rfl (World.ownsRow.alloc hO (.cells #[.string ⟨cur.toArray⟩] 9)) ⟨wr.heap.size, 0, none⟩ 1 1 [.string ⟨cur.toArray⟩] rfl rfl HQ.out.1 (fun u hu => by simp at hu; subst hu; rfl) HQ.out.2.1 HQ.out.2.2 (Nat.le_trans hsz (by simp)) ?_)
        intro v2 w9 hown9 hg9 _
        have hO9 : Os w9 w.heap.size v2 (keysOf (acc ++ [cur])) := by
          rw [keysOf_snoc]
          unfold Os
          rw [List.length_append, List.map_append]
          exact hown9
        have hB9 : Below w.heap.size w w9 := (HW.out.alloc hsz _).grown hg9 (by simp; omega) (fun j hj => (World.ownsRow.lt hO j hj).1)
        obtain ⟨a9, c9, hv9, -, -, -, -⟩ := hO9.shape
        rw [keysOf_length] at hv9
        subst hv9
        have H9 := hide (And.intro hO9 hB9)
        clear hO9 hB9 hown9 hg9 hO
        go_wp2
        go_roundw
        case rel => exact ⟨s.size + 1, s.size + 1, acc ++ [cur], by go_num, by go_num, by omega, by omega, by simp; omega, hide H9.out.1, hide (.inr ⟨rfl, HE.out⟩), hide H9.out.2⟩
        case measure => simp [intOf]
      · have hlt : i < s.size := by omega
        have z3 : ((i : Int) == (s.size : Int)) = false := by rw [beq_eq_false_iff_ne]; omega
        obtain ⟨X, hX, x0, x1, ix⟩ := at_string s i hlt
        obtain ⟨tl, hu, he, hq⟩ := rune1_cons s i hlt
        by_cases g32 : X = 32
        · subst g32
          have hs32 : s[i]'hlt = 32 := by
            apply UInt8.toNat_inj.1
            have : (32 : UInt8).toNat = 32 := rfl
            omega
          have hE : (acc ++ [cur]) ++ pieces32 [] (s.data.toList.drop (i + 1)) = F := by
            have := HX.out.1
            rw [he, hs32, pieces32, if_pos rfl, ← hu] at this
            rw [← this]
            simp
          have HE := hide hE
          clear hE hs32 hX hu he hq
          go_wp2_with (at_builtin; refine wpList_append_own _ rfl _ _ 30 rfl w.heap.size 9 i0 (.string ⟨#[]⟩) 1 16 Tryz.underlying30 hi hz0 hz1 hz2 rfl (by decide) _ _ _ rfl (World.ownsRow.alloc hO (.cells #[.string ⟨cur.toArray⟩] 9)) ⟨wr.heap.size, 0, none⟩ 1 1 [.string ⟨cur.toArray⟩] rfl rfl HQ.out.1 (fun u hu => by simp at hu; subst hu; rfl) HQ.out.2.1 HQ.out.2.2 (Nat.le_trans hsz (by simp)) ?_)
          intro v2 w9 hown9 hg9 _
          have hO9 : Os w9 w.heap.size v2 (keysOf (acc ++ [cur])) := by
            rw [keysOf_snoc]
            unfold Os
            rw [List.length_append, List.map_append]
            exact hown9
          have hB9 : Below w.heap.size w w9 := (HW.out.alloc hsz _).grown hg9 (by simp; omega) (fun j hj => (World.ownsRow.lt hO j hj).1)
          obtain ⟨a9, c9, hv9, -, -, -, -⟩ := hO9.shape
          rw [keysOf_length] at hv9
          subst hv9
          have H9 := hide (And.intro hO9 hB9)
          clear hO9 hB9 hown9 hg9 hO
          go_wp2
          go_roundw
          case rel => exact ⟨i + 1, i + 1, acc ++ [cur], by go_num, by go_num, by omega, by omega, by simp; omega, hide H9.out.1, hide (.inl ⟨by omega, by omega, by rw [Nat.sub_self, List.take_zero]; exact HE.out⟩), hide H9.out.2⟩
          case measure => simp [intOf]; omega
        · have g33 : (X == 32) = false := by simpa using g32
          have hs32 : s[i]'hlt ≠ 32 := fun e => by
            apply g32
            rw [hX, e]
            rfl
          have hE : acc ++ pieces32 ((s.data.toList.drop at').take (i + 1 - at')) (s.data.toList.drop (i + 1)) = F := by
            have := HX.out.1
            rw [he, pieces32, if_neg hs32, ← hu, HX.out.2] at this
            rw [cur_next s at' i hai hlt]
            exact this
          have HE := hide hE
          clear hE hs32 hX hu he hq
          go_wp2
          go_roundw
          case rel => exact ⟨i + 1, at', acc, rfl, by go_num, by omega, by omega, by omega, hide HO.out, hide (.inl ⟨by omega, by omega, HE.out⟩), hide HW.out⟩
          case measure => simp [intOf]; omega
    · have hK : F.take 9 = acc := by
        rcases HP.out with ⟨g1, g2, g3⟩ | ⟨g1, g2⟩
        · have h9 : acc.length = 9 := by omega
          rw [← g3, List.take_append_of_le_length (by omega), List.take_of_length_le (by omega)]
        · rw [← g2, List.take_of_length_le (by omega)]
      have hor : ¬ (i : Int) ≤ (s.size : Int) ∨ ((i : Int) ≤ (s.size : Int) ∧ ¬ (acc.length : Int) < 9) := by omega
      have HK := hide hK
      clear hK hgo
      rcases hor with z1 | ⟨z1, z2⟩
      all_goals
        go_wp2
        go_ret
        rw [HR.out, HK.out]
        exact ⟨_, rfl, HO.out, HW.out⟩
end Go.Proofs.YtpepgoelnagoaaaGreatDoor
