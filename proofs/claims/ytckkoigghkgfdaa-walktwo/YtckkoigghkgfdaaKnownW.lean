/-
  known 8: THE WALK.
  known 8 ANSWERS TRUE.
-/
import Derived.Test.YtckkoigghkgfdaaMapsT
import Derived.BigCall
import Derived.BigGuard
import Derived.BigGuardPart
import Derived.BigRegion
import Derived.Test.YtckkoigghkgfdaaOf
namespace Go.Proofs.Ytckkoigghkgfdaa
open Go.RowKit Go.Shelf
set_option linter.unusedSimpArgs false

/-- What known asks of Of. -/
def OfOk : Prop := ∀ W : World, Calls Try.prog 23 #[.slice (some ⟨W.heap.size, 0, none⟩) 2 2, .slice (some ⟨W.heap.size + 1, 0, none⟩) 2 2] ((W.alloc (.cells #[.string ⟨#[97]⟩, .string ⟨#[98]⟩] 9)).alloc (.cells #[.int .i64 1, .int .i64 1] 3)) fun e w' => ∃ x t, e = .returned (.tuple #[.agg #[.pointer x], .int .i64 0]) ∧ KM w' t x l2 ∧ Below W.heap.size W w'
/-- A box that was just made. -/
theorem box_new (W : World) (v : Value) (ty : TypeId) : ∃ W', W' = W.alloc (.cells #[v] ty) ∧ W'.cell? ⟨W.heap.size, 0, none⟩ = some v ∧ Below W.heap.size W W' := ⟨_, rfl, cell_new W v ty, (Below.refl _ W).alloc (Nat.le_refl _) _⟩
theorem box_new2 (W : World) (v a b c : Value) : ∃ W', W' = (W.alloc (.cells #[v] 29)).alloc (.cells #[a, b, c] 33) ∧ W'.cell? ⟨W.heap.size, 0, none⟩ = some v ∧ (W'.cell? ⟨W.heap.size + 1, 0, none⟩ = some a ∧ W'.cell? ⟨W.heap.size + 1, 1, none⟩ = some b ∧ W'.cell? ⟨W.heap.size + 1, 2, none⟩ = some c) ∧ Below W.heap.size W W' := by
  obtain ⟨h0, h1⟩ := new2 W (.cells #[v] 29) (.cells #[a, b, c] 33)
  exact ⟨_, rfl, (cell_of_row _ _ 0 _ 29 (0, 0) h0).trans rfl, ⟨(cell_of_row _ _ 0 _ 33 (0, 0) h1).trans rfl, (cell_of_row _ _ 1 _ 33 (0, 0) h1).trans rfl, (cell_of_row _ _ 2 _ 33 (0, 0) h1).trans rfl⟩, ((Below.refl _ W).alloc (Nat.le_refl _) _).alloc (by simp) _⟩
set_option maxHeartbeats 8000000 in
set_option maxRecDepth 100000 in
theorem known_of (hof : OfOk) (w : World) : Calls Try.prog 8 #[] w fun e w' => e = .returned (.bool true) ∧ Below w.heap.size w w' := by
  have g1 := hof w
  clear hof
  go_enter Try.func8, Try.ntmps8
  go_upto_region 2 with (go_at_call 23; refine g1.mono ?_; rintro e w1 ⟨x, t, rfl, hi1, b1⟩; dsimp only)
  clear g1
  obtain ⟨wa, hwa, ca, ba⟩ := box_new w1 (.pointer x) 29
  rw [← hwa]
  have HA := hide (And.intro (hi1.below ba) (b1.trans (ba.mono b1.size)))
  obtain ⟨B1, hB1⟩ : ∃ B1, B1 = w1.heap.size := ⟨_, rfl⟩
  rw [← hB1] at ca ⊢
  clear hB1 hwa ba b1 hi1
  have g2 := k_take HA.out.1
  go_upto_region 3 with (go_at_call 24; refine g2.mono ?_; rintro e w2 ⟨y, ta, rfl, hi2, b2⟩; dsimp only)
  clear g2
  obtain ⟨wb, hwb, cb, bb⟩ := box_new w2 (.pointer y) 29
  rw [← hwb]
  have bab := b2.trans (bb.mono b2.size)
  have HB := hide (And.intro (HA.out.1.below bab) (And.intro (hi2.below bb) (HA.out.2.trans (bab.mono HA.out.2.size))))
  have cab := cell_stays ca bab
  obtain ⟨B2, hB2⟩ : ∃ B2, B2 = w2.heap.size := ⟨_, rfl⟩
  rw [← hB2] at cb ⊢
  clear hB2 hwb bb b2 hi2 bab HA ca
  have g3 := k_put HB.out.1
  go_upto_region 4 with (go_at_call 25; refine g3.mono ?_; rintro e w3 ⟨z, tb, rfl, hi3, b3⟩; dsimp only)
  clear g3
  obtain ⟨wc, hwc, cc, bc⟩ := box_new w3 (.pointer z) 29
  rw [← hwc]
  have bbc := b3.trans (bc.mono b3.size)
  have HC := hide (And.intro (HB.out.1.below bbc) (And.intro (HB.out.2.1.below bbc) (And.intro (hi3.below bc) (HB.out.2.2.trans (bbc.mono HB.out.2.2.size)))))
  have cac := cell_stays cab bbc
  have cbc := cell_stays cb bbc
  obtain ⟨B3, hB3⟩ : ∃ B3, B3 = w3.heap.size := ⟨_, rfl⟩
  rw [← hB3] at cc ⊢
  clear hB3 hwc bc b3 hi3 bbc HB cab cb
  have g4 := k_el1 HC.out.1 HC.out.2.1 HC.out.2.2.1
  go_upto_region 5 with (go_at_call 10; refine g4.mono ?_; rintro e w4 ⟨xm, m, L, MM, rfl, hm, b4⟩; dsimp only)
  clear g4
  obtain ⟨wd, hwd, cd, _, bd⟩ := box_new2 w4 (.pointer xm) (.int .i64 L) (.int .i64 L) (.int .i64 MM)
  rw [← hwd]
  have bcd := b4.trans (bd.mono b4.size)
  have HM := hide hm.2.2
  have HP := hide hm.1
  have HD := hide (And.intro (HC.out.1.below bcd) (And.intro (HC.out.2.1.below bcd) (And.intro (HC.out.2.2.1.below bcd) (And.intro (In.below bd hm.2.1) (HC.out.2.2.2.trans (bcd.mono HC.out.2.2.2.size))))))
  have cad := cell_stays cac bcd
  have cbd := cell_stays cbc bcd
  have ccd := cell_stays cc bcd
  obtain ⟨B4, hB4⟩ : ∃ B4, B4 = w4.heap.size := ⟨_, rfl⟩
  rw [← hB4] at cd ⊢
  clear hB4 hwd bd b4 hm bcd HC cac cbc cc
  have g5 := k_el2 HD.out.1 HD.out.2.2.1
  go_upto_region 6 with (go_at_call 10; refine g5.mono ?_; rintro e w5 ⟨rfl, b5⟩; dsimp only)
  clear g5
  obtain ⟨we, hwe, ce, ⟨ce0, ce1, ce2⟩, be⟩ := box_new2 w5 (.pointer z) (.int .i64 0) (.int .i64 0) (.int .i64 0)
  rw [← hwe]
  have bde := b5.trans (be.mono b5.size)
  have HE := hide (And.intro (HD.out.1.below bde) (And.intro (HD.out.2.1.below bde) (And.intro (HD.out.2.2.1.below bde) (And.intro (In.below bde HD.out.2.2.2.1) (HD.out.2.2.2.2.trans (bde.mono HD.out.2.2.2.2.size))))))
  have cae := cell_stays cad bde
  have cbe := cell_stays cbd bde
  have cce := cell_stays ccd bde
  have cde := cell_stays cd bde
  obtain ⟨B5, hB5⟩ : ∃ B5, B5 = w5.heap.size := ⟨_, rfl⟩
  rw [← hB5] at ce ce0 ce1 ce2 ⊢
  clear hB5 hwe be b5 bde HD cad cbd ccd cd
  have g6 := k_nil HE.out.1 HE.out.2.1 HE.out.2.2.1
  go_upto_region 7 with (go_at_call 18; refine g6.mono ?_; rintro e w6 ⟨rfl, b6⟩; dsimp only)
  clear g6
  obtain ⟨wf, hwf, _, _, bf⟩ := box_new2 w6 (.pointer none) (.int .i64 0) (.int .i64 0) (.int .i64 0)
  rw [← hwf]
  have bef := b6.trans (bf.mono b6.size)
  have HF := hide (And.intro (HE.out.2.2.1.below bef) (And.intro (In.below bef HE.out.2.2.2.1) (HE.out.2.2.2.2.trans (bef.mono HE.out.2.2.2.2.size))))
  have ccf := cell_stays cce bef
  have cdf := cell_stays cde bef
  have cef := cell_stays ce bef
  have cef0 := cell_stays ce0 bef
  have cef1 := cell_stays ce1 bef
  have cef2 := cell_stays ce2 bef
  clear hwf bf b6 bef HE cae cbe cce cde ce ce0 ce1 ce2
  have g7 := k_get HP.out HF.out.2.1 HM.out.2.1
  have g8 : ∀ W, Below wf.heap.size wf W → Calls Try.prog 13 #[.agg #[.pointer xm], .string ⟨#[98]⟩] W fun e w' => (∃ v, e = .returned (.tuple #[.int .i64 v, .bool false])) ∧ Below W.heap.size W w' := fun W hW => k_get HP.out (In.below hW HF.out.2.1) HM.out.2.2.1
  have g9 : ∀ W, Below wf.heap.size wf W → Calls Try.prog 13 #[.agg #[.pointer xm], .string ⟨#[99]⟩] W fun e w' => (∃ v, e = .returned (.tuple #[.int .i64 v, .bool true])) ∧ Below W.heap.size W w' := fun W hW => k_get HP.out (In.below hW HF.out.2.1) HM.out.2.2.2
  have ga : ∀ W, Below wf.heap.size wf W → Calls Try.prog 16 #[.agg #[.pointer xm]] W fun e w' => e = .returned (.int .i64 2) ∧ Below W.heap.size W w' := fun W hW => k_len HP.out (In.below hW HF.out.2.1) HM.out.1
  have gb : ∀ W, Below wf.heap.size wf W → Calls Try.prog 19 #[.agg #[.pointer z], .agg #[.pointer z]] W fun e w' => e = .returned (.bool true) ∧ Below W.heap.size W w' := fun W hW => k_same HF.out.1.ptr (In.below hW HF.out.1.tree)
  unfold kA at g7
  go_upto_region 8 with (go_at_call 13; refine g7.mono ?_; rintro e w7 ⟨⟨v7, rfl⟩, b7⟩; have c7 := cell_stays cdf b7; have H7 := hide b7; clear b7; dsimp only)
  go_upto_region 9 with (go_at_call 13; refine (g8 w7 H7.out).mono ?_; rintro e w8 ⟨⟨v8, rfl⟩, b8⟩; have c8 := cell_stays c7 b8; have H8 := hide (H7.out.trans (b8.mono H7.out.size)); clear b8; dsimp only)
  go_upto_region 10 with (go_at_call 13; refine (g9 w8 H8.out).mono ?_; rintro e w9 ⟨⟨v9, rfl⟩, b9⟩; have c9 := cell_stays c8 b9; have H9 := hide (H8.out.trans (b9.mono H8.out.size)); clear b9; dsimp only)
  clear g7 g8 g9 c7 c8 cdf
  have d4 := cell_stays ccf H9.out
  have d5 := cell_stays cef H9.out
  have d6 := cell_stays cef0 H9.out
  have d7 := cell_stays cef1 H9.out
  have d8 := cell_stays cef2 H9.out
  clear ccf cef cef0 cef1 cef2
  try dsimp only [List.append]
  go_wp2_with (first
    | (go_at_call 16; refine (ga w9 H9.out).mono ?_; rintro e wg ⟨rfl, bg⟩; have n4 := cell_stays d4 bg; have n5 := cell_stays d5 bg; have n6 := cell_stays d6 bg; have n7 := cell_stays d7 bg; have n8 := cell_stays d8 bg; have HG := hide (H9.out.trans (bg.mono H9.out.size)); clear bg d4 d5 d6 d7 d8; dsimp only)
    | (go_at_call 19; refine (gb wg HG.out).mono ?_; rintro e wh ⟨rfl, bh⟩; have k6 := cell_stays n6 bh; have k7 := cell_stays n7 bh; have k8 := cell_stays n8 bh; have HH := hide (HG.out.trans (bh.mono HG.out.size)); clear bh n4 n5 n6 n7 n8; dsimp only))
  go_ret
  exact ⟨by simp, HF.out.2.2.trans (HH.out.mono HF.out.2.2.size)⟩
end Go.Proofs.Ytckkoigghkgfdaa
namespace Go.Proofs.Ytckkoigghkgfdaa
open Go.RowKit Go.Shelf
set_option linter.unusedSimpArgs false

theorem cs_new (w : World) (l : List Value) (ty : TypeId) : Cs (w.alloc (.cells l.toArray ty)) (.slice (some ⟨w.heap.size, 0, none⟩) l.length l.length) l := ⟨_, _, rfl, Nat.le_refl _, fun j u hj => ⟨_, _, rfl, by
  rw [Nat.zero_add, cell_of_row _ _ j _ ty (0, 0) (heap_alloc_new w _)]
  simpa using hj⟩⟩
theorem of_ok : OfOk := fun W => by
  have h1 := cs_new W [.string kA, .string kB] 9
  have h2 := cs_new (W.alloc (.cells [Value.string kA, .string kB].toArray 9)) [.int .i64 1, .int .i64 1] 3
  have hb0 : Below W.heap.size W (W.alloc (.cells [Value.string kA, .string kB].toArray 9)) := (Below.refl _ W).alloc (Nat.le_refl _) _
  have hb1 : Below (W.alloc (.cells [Value.string kA, .string kB].toArray 9)).heap.size (W.alloc (.cells [Value.string kA, .string kB].toArray 9)) _ := (Below.refl _ _).alloc (Nat.le_refl _) (.cells [Value.int .i64 1, .int .i64 1].toArray 3)
  have h := of_any [kA, kB] [1, 1] _ _ _ (h1.below hb1) h2 (by decide)
  have hs : (W.alloc (.cells [Value.string kA, .string kB].toArray 9)).heap.size = W.heap.size + 1 := by simp
  rw [hs] at h
  refine Calls.mono h ?_
  rintro e w' ⟨hb, ⟨_, h⟩ | ⟨t, p, he, _, hp, hl, hs, hbal, hi⟩⟩
  · rcases h with h | h
    · exact absurd rfl h
    · exact absurd (by decide) h
  · have h1 : (p.map (ent [kA, kB] [1, 1])).Perm ((List.range 2).map (ent [kA, kB] [1, 1])) := hp.map _
    have h2 : ((List.range 2).map (ent [kA, kB] [1, 1])) = l2 := by decide
    rw [h2, ← hl] at h1
    obtain ⟨x, hx⟩ := t.ptr_shape
    refine ⟨x, t, by rw [he, mv_ptr hx], ⟨hx, hi, srt_same hs srt2 h1, hbal⟩, ?_⟩
    have hb2 := hb0.trans (hb1.mono hb0.size)
    exact hb2.trans (hb.mono hb2.size)
theorem known_any (w : World) : Calls Try.prog 8 #[] w fun e w' => e = .returned (.bool true) ∧ Below w.heap.size w w' := known_of of_ok w
end Go.Proofs.Ytckkoigghkgfdaa
