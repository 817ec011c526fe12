/-
  known 7.
-/
import Derived.Test.YtkdgageljgfgoaaDoorKnownA
import Derived.BigCall
import Derived.BigGuard
import Derived.BigGuardPart
import Derived.BigRegion
namespace Go.Proofs.YtkdgageljgfgoaaDoor
open Go.RowKit Go.Shelf
set_option linter.unusedSimpArgs false
attribute [local go_sem] Oper.semAt_some

/-- A value in its box. -/
def Box (w : World) (B : Nat) (ao : Option Addr) (m c : Nat) : Prop := w.heap[B]? = some (.cells #[.int .i64 2, .int .i64 0, .slice ao m c] 30 (0, 0))
theorem Box.below {w w' : World} {B : Nat} {ao : Option Addr} {m c : Nat} (h : Box w B ao m c) (hb : Below w.heap.size w w') : Box w' B ao m c := (hb.block _ (Array.getElem?_eq_some_iff.1 h).1).trans h
theorem Box.only {w w' : World} {B g : Nat} {ao : Option Addr} {m c : Nat} (h : Box w B ao m c) (ho : Only (fun j => j = g) w w') (hg : B ≠ g) : Box w' B ao m c := (ho.block _ (Array.getElem?_eq_some_iff.1 h).1 hg).trans h
theorem Box.cells {w : World} {B : Nat} {ao : Option Addr} {m c : Nat} (h : Box w B ao m c) : w.cell? ⟨B, 0, none⟩ = some (.int .i64 2) ∧ w.cell? ⟨B, 1, none⟩ = some (.int .i64 0) ∧ w.cell? ⟨B, 2, none⟩ = some (.slice ao m c) := ⟨(cell_of_row _ _ 0 _ 30 (0, 0) h).trans rfl, (cell_of_row _ _ 1 _ 30 (0, 0) h).trans rfl, (cell_of_row _ _ 2 _ 30 (0, 0) h).trans rfl⟩

theorem nextB {w a b : World} (h : Below w.heap.size w a) (k : Below a.heap.size a b) : Below w.heap.size w b := h.trans (k.mono h.size)
set_option maxHeartbeats 16000000 in
set_option maxRecDepth 100000 in
theorem known_any {w : World} (hT : Tabs w) : Calls Tryd.prog 8 #[] w fun e w' => e = .returned (.bool true) ∧ Below w.heap.size w w' := by
  have k35w := k35 w
  have HT := hide hT
  clear hT
  go_enter Tryd.func8, Tryd.ntmps8
  go_upto_region 2 with (go_at_call 6; refine k35w.mono ?_; rintro e w1 ⟨rfl, b1⟩; have H1 := hide b1; clear b1 k35w; dsimp only)
  obtain ⟨wA, hwA⟩ : ∃ wA, wA = w1.alloc (.cells #[.int .i64 2, .int .i64 0, .slice none 0 0] 30) := ⟨_, rfl⟩
  have hA : Below w1.heap.size w1 wA := by rw [hwA]; exact (Below.refl _ w1).alloc (Nat.le_refl _) _
  have mA : wA.heap[w1.heap.size]? = some (.cells #[.int .i64 2, .int .i64 0, .slice none 0 0] 30 (0, 0)) := by rw [hwA]; exact heap_alloc_new w1 _
  rw [← hwA]
  obtain ⟨Bv, hBv⟩ : ∃ B, B = w1.heap.size := ⟨_, rfl⟩
  rw [← hBv] at mA ⊢
  have bA := H1.out.trans (hA.mono H1.out.size)
  have hsA : wA.heap.size = Bv + 1 := by rw [hwA, hBv]; simp
  have HA := hide (And.intro bA (And.intro hsA (And.intro hBv H1.out.size)))
  refine wp_r2 rfl rfl mA (fun W hW => ka1 (HT.out.below (HA.out.1.trans (hW.mono HA.out.1.size)))) (fun _ _ _ _ _ h => h) ?_
  intro a1 c1 m1 W0 W2 H2
  clear mA bA hA hsA hwA hBv
  obtain rfl : m1 = 1 := H2.out.2.2.1
  try simp only [Act.put, List.setIfInBounds_toArray, List.set_cons_zero, List.set_cons_succ]
  have hb2 : Below w.heap.size w W2 := by
    have h1 := HA.out
    have h0 : Below w.heap.size w W0 := HA.out.1.trans (H2.out.1.mono HA.out.1.size)
    exact Below.only h0 H2.out.2.1 h0.size (fun j e => by omega)
  obtain ⟨g, hg1, hg2, hg3⟩ : ∃ g, a1 = some ⟨g, 0, none⟩ ∧ Bv < g ∧ g < W2.heap.size := by
    rcases H2.out.2.2.2.1.shape with ⟨e, hn⟩ | ⟨g, cap, e, h1, h2, h3⟩
    · cases hn
    · injection e with e1 _ _
      exact ⟨g, e1, by have := HA.out; omega, h2⟩
  subst hg1
  have hO2 := H2.out.2.2.2.1
  have hv2 : Rv W2 (some ⟨g, 0, none⟩) c1 [e1K] := Rv.own hO2
  have hx2 : Box W2 Bv (some ⟨g, 0, none⟩) 1 c1 := H2.out.2.2.2.2
  have HV := hide (And.intro hb2 (And.intro hO2 (And.intro hv2 (And.intro hx2 (And.intro hg2 hg3)))))
  clear hb2 hO2 hv2 hg2 hg3
  go_upto_region 3 with fail
  refine wp_r3 rfl 2 2 0 0 [e1K, e2K] rfl rfl hx2 (fun W hW => ka3 (HV.out.2.2.1.below hW) (HT.out.below (HV.out.1.trans (hW.mono HV.out.1.size)))) (fun _ _ _ _ _ h => h) ?_
  intro a2 c2 B4 W3 H3
  clear hx2
  try simp only [Act.put, List.setIfInBounds_toArray, List.set_cons_zero, List.set_cons_succ]
  have hx3 : Box W3 B4 a2 2 c2 := H3.out.2.2.2
  have H3b : Hid (Below w.heap.size w W3) := hide (HV.out.1.trans (H3.out.1.mono HV.out.1.size))
  go_upto_region 4 with fail
  refine wp_r4 rfl 1 2 0 0 [e2K] rfl rfl hx3 (fun W hW => ka4 (H3.out.2.2.1.rv.below hW) (HT.out.below (H3b.out.trans (hW.mono H3b.out.size)))) (fun _ _ _ _ _ h => h) ?_
  intro a3 c3 B6 W4 H4
  clear hx3
  try simp only [Act.put, List.setIfInBounds_toArray, List.set_cons_zero, List.set_cons_succ]
  have H4b : Hid (Below w.heap.size w W4) := hide (H3b.out.trans (H4.out.1.mono H3b.out.size))
  have b24 : Below W2.heap.size W2 W4 := H3.out.1.trans (H4.out.1.mono H3.out.1.size)
  have hx1 : Box W4 Bv (some ⟨g, 0, none⟩) 1 c1 := HV.out.2.2.2.1.below b24
  have hx4 : Box W4 B4 a2 2 c2 := Box.below (w := W3) H3.out.2.2.2 H4.out.1
  have hx6 : Box W4 B6 a3 1 c3 := H4.out.2.2.2
  have k33w := k33 (HV.out.2.2.1.below b24) H4.out.2.2.1.rv (H3.out.2.2.1.rv.below H4.out.1)
  obtain ⟨v0, v1, v2⟩ := hx1.cells
  obtain ⟨y0, y1, y2⟩ := hx4.cells
  obtain ⟨u0, u1, u2⟩ := hx6.cells
  have H4x := hide (And.intro b24 (And.intro hx1 (And.intro hx4 hx6)))
  clear b24 hx1 hx4 hx6
  go_upto_region 6 with (go_at_call 14; refine k33w.mono ?_; rintro e w5 ⟨a4, c4, rfl, hn5, b5⟩; have H5 := hide (And.intro hn5 b5); clear hn5 b5 k33w v0 v1 v2 y0 y1 y2 u0 u1 u2; dsimp only)
  obtain ⟨w6, hw6⟩ : ∃ w6, w6 = w5.alloc (.cells #[.int .i64 2, .int .i64 0, .slice a4 1 c4] 30) := ⟨_, rfl⟩
  have b6 : Below w5.heap.size w5 w6 := by rw [hw6]; exact (Below.refl _ w5).alloc (Nat.le_refl _) _
  obtain ⟨B8, hB8⟩ : ∃ B, B = w5.heap.size := ⟨_, rfl⟩
  have hx8 : Box w6 B8 a4 1 c4 := by rw [hw6, hB8]; exact heap_alloc_new w5 _
  rw [← hw6, ← hB8]
  have b46 : Below W4.heap.size W4 w6 := H5.out.2.trans (b6.mono H5.out.2.size)
  have hn4 : Nv w6 W4.heap.size a4 c4 [e2K] := H5.out.1.belowN b6
  have hB8' : W4.heap.size ≤ B8 := by rw [hB8]; exact H5.out.2.size
  have H6 := hide (And.intro b46 (And.intro hx8 (And.intro hn4 hB8')))
  have H6b : Hid (Below w.heap.size w w6) := hide (H4b.out.trans (b46.mono H4b.out.size))
  have hx4 : Box w6 B4 a2 2 c2 := H4x.out.2.2.1.below b46
  obtain ⟨y0, y1, y2⟩ := hx4.cells
  have k24w := k24 ((H3.out.2.2.1.rv.below H4.out.1).below b46)
  clear hw6 b6 hB8 hx8 b46 hn4 hB8' hx4
  go_upto_region 8 with (first
    | (go_at_call 15; refine k24w.mono ?_; rintro e w7 ⟨a5, c5, rfl, hn7, b7⟩; have H7 := hide (And.intro hn7 b7); clear hn7 b7 k24w y0 y1 y2; dsimp only)
    | (go_at_call 16; refine (k10 _).mono ?_; rintro e w8 ⟨rfl, b8⟩; have H8 := hide b8; clear b8; dsimp only))
  have b68 : Below w6.heap.size w6 w8 := H7.out.2.trans (H8.out.mono H7.out.2.size)
  have b48 : Below W4.heap.size W4 w8 := H6.out.1.trans (b68.mono H6.out.1.size)
  have hx4 : Box w8 B4 a2 2 c2 := H4x.out.2.2.1.below b48
  have hr4 : Rv w8 a2 c2 [e1K, e2K] := (H3.out.2.2.1.rv.below H4.out.1).below b48
  have H8b : Hid (Below w.heap.size w w8) := hide (H6b.out.trans (b68.mono H6b.out.size))
  have H8x := hide (And.intro b68 (And.intro b48 (And.intro hx4 hr4)))
  clear b68 b48 hr4
  refine wp_r8 rfl 0 0 0 2 [] rfl rfl hx4 (fun W hW => ka8 (H8x.out.2.2.2.below hW) (HT.out.below (H8b.out.trans (hW.mono H8b.out.size)))) (fun _ _ _ _ _ h => h) ?_
  intro a8 c8 B15 W9 H9
  clear hx4
  try simp only [Act.put, List.setIfInBounds_toArray, List.set_cons_zero, List.set_cons_succ]
  have b49 : Below W4.heap.size W4 W9 := H8x.out.2.1.trans (H9.out.1.mono H8x.out.2.1.size)
  have b29 : Below W2.heap.size W2 W9 := H4x.out.1.trans (b49.mono H4x.out.1.size)
  have hx1 : Box W9 Bv (some ⟨g, 0, none⟩) 1 c1 := HV.out.2.2.2.1.below b29
  have hO9 : Oe W9 wA.heap.size (.slice (some ⟨g, 0, none⟩) 1 c1) [e1K] := HV.out.2.1.below b29
  have hA9 : wA.heap.size ≤ W9.heap.size := by have := HV.out.2.2.2.2; have := HA.out; have := b29.size; omega
  obtain ⟨v0, v1, v2⟩ := hx1.cells
  have H9b : Hid (Below w.heap.size w W9) := hide (H8b.out.trans (H9.out.1.mono H8b.out.size))
  have H9x := hide (And.intro b49 (And.intro b29 (And.intro hO9 hA9)))
  clear b49 b29 hx1 hO9 hA9
  have HG : Hid (∀ w10, W9.grownBy w10 (some g) → Only (fun j => j = g) W9 w10 ∧ Below w.heap.size w w10) := hide (fun w10 hgr => by
    have o10 : Only (fun j => j = g) W9 w10 := (Only.ofGrown hgr).mono (fun j _ e => by simpa using e.symm)
    exact ⟨o10, Below.only H9b.out o10 H9b.out.size (fun j e => by have := HV.out.2.2.2.2; have := HA.out; omega)⟩)
  go_upto_region 10 with (first
    | (refine wpList_appE rfl _ _ rfl wA.heap.size (.slice (some ⟨g, 0, none⟩) 1 c1) [e1K] rfl H9x.out.2.2.1 ⟨g, 0, none⟩ c1 1 [e1K] rfl rfl H9x.out.2.2.1.re (by simp) H9x.out.2.2.2 ?_; intro a10 c10 w10 H10; clear v0 v1 v2; dsimp only)
    | (go_at_call 13; refine (at_any 3 _).mono ?_; rintro e w11 ⟨rfl, b11⟩; have H11 := hide b11; clear b11; dsimp only)
    | (go_at_call 12; refine (ka9 ((Rv.own H10.out.1).below H11.out) (HT.out.below ((HG.out _ H10.out.2).2.trans (H11.out.mono (HG.out _ H10.out.2).2.size)))).mono ?_; rintro e w12 ⟨a12, c12, rfl, hn12, b12⟩; have H12 := hide b12; clear b12 hn12; dsimp only))
  obtain ⟨w13, hw13⟩ : ∃ w13, w13 = w12.alloc (.cells #[.int .i64 0, .int .i64 0, .slice a12 0 c12] 30) := ⟨_, rfl⟩
  have b13 : Below w12.heap.size w12 w13 := by rw [hw13]; exact (Below.refl _ w12).alloc (Nat.le_refl _) _
  obtain ⟨B17, hB17⟩ : ∃ B, B = w12.heap.size := ⟨_, rfl⟩
  rw [← hw13, ← hB17]
  obtain ⟨o10, b10⟩ := HG.out _ H10.out.2
  have b1013 : Below w10.heap.size w10 w13 := (H11.out.trans (H12.out.mono H11.out.size)).trans (b13.mono (H11.out.trans (H12.out.mono H11.out.size)).size)
  have b0 : Below w.heap.size w w13 := b10.trans (b1013.mono b10.size)
  have hz2 : g < W2.heap.size := HV.out.2.2.2.2.2
  have hz4 : W2.heap.size ≤ B4 := H3.out.2.1
  have hz24 : W2.heap.size ≤ W4.heap.size := H4x.out.1.size
  have hz46 : W4.heap.size ≤ w6.heap.size := H6.out.1.size
  have hz23 : W2.heap.size ≤ W3.heap.size := H3.out.1.size
  have b49 := H9x.out.1
  have b69 : Below w6.heap.size w6 W9 := H8x.out.1.trans (H9.out.1.mono H8x.out.1.size)
  have b79 : Below w7.heap.size w7 W9 := H8.out.trans (H9.out.1.mono H8.out.size)
  have hx4 : Box w13 B4 a2 2 c2 := ((H4x.out.2.2.1.below b49).only o10 (by omega)).below b1013
  have hx6 : Box w13 B6 a3 1 c3 := ((H4x.out.2.2.2.below b49).only o10 (by have := H4.out.2.1; omega)).below b1013
  have hx8 : Box w13 B8 a4 1 c4 := ((H6.out.2.1.below b69).only o10 (by have := H6.out.2.2.2; omega)).below b1013
  have hn2 : Nv w13 W2.heap.size a2 c2 [e1K, e2K] := (((H3.out.2.2.1.belowN H4.out.1).belowN b49).only o10 (fun _ a ha => by have := H3.out.2.2.1.new a ha; omega)).belowN b1013
  have hn3 : Nv w13 W3.heap.size a3 c3 [e2K] := ((H4.out.2.2.1.belowN b49).only o10 (fun _ a ha => by have := H4.out.2.2.1.new a ha; omega)).belowN b1013
  have hn4 : Nv w13 W4.heap.size a4 c4 [e2K] := ((H6.out.2.2.1.belowN b69).only o10 (fun _ a ha => by have := H6.out.2.2.1.new a ha; omega)).belowN b1013
  have hn5 : Nt w13 w6.heap.size a5 c5 [sx, sy] := ((H7.out.1.below b79).only o10 (by omega)).below b1013
  have HX := hide (And.intro b0 (And.intro hx4 (And.intro hx6 (And.intro hx8 (And.intro hn2 (And.intro hn3 (And.intro hn4 hn5)))))))
  clear hw13 b13 hB17 o10 b10 b1013 b0 hz2 hz4 hz24 hz46 hz23 b49 b69 b79 hx6 hx8 hn2 hn3 hn4 hn5 H12 H11 H10 HG H9x H9b H9 H8x H8b H8 H7 H6b H6 H5 H4x H4b H4 H3b H3 HV H2 HA
  refine wp_r10 rfl 0 0 0 2 [] rfl rfl hx4 (fun W hW => ka10 (HX.out.2.2.2.2.1.rv.below hW) (HT.out.below (HX.out.1.trans (hW.mono HX.out.1.size)))) (fun _ _ _ _ _ h => h) ?_
  intro a14 c14 B19 W14 H14
  clear hx4
  try simp only [Act.put, List.setIfInBounds_toArray, List.set_cons_zero, List.set_cons_succ]
  obtain ⟨u0, u1, u2⟩ := (HX.out.2.2.1.below H14.out.1).cells
  obtain ⟨z0, z1, z2⟩ := (HX.out.2.2.2.1.below H14.out.1).cells
  have hn3 := HX.out.2.2.2.2.2.1.belowN H14.out.1
  have hn4 := HX.out.2.2.2.2.2.2.1.belowN H14.out.1
  have hn5 := HX.out.2.2.2.2.2.2.2.below H14.out.1
  have b0 := HX.out.1.trans (H14.out.1.mono HX.out.1.size)
  have k29w := k29 hn4.rv hn3.rv
  have knum := num_any
  obtain ⟨q, off, hq, e0, e1, e2, e3, e4, e5⟩ := hn3.rv.re.cells (k := 0) (x := e2K) rfl
  subst hq
  dsimp only at e5
  rw [show off + 0 * 6 + 5 = off + 5 by omega] at e5
  have HF := hide (And.intro b0 (And.intro (HX.out.2.2.1.below H14.out.1) (And.intro hn5 e5)))
  have k31w : ∀ W, Hid (Below W14.heap.size W14 W) → Calls Tryd.prog 18 #[.slice a5 2 c5, .slice (some ⟨W.heap.size, 0, none⟩) 2 2] (W.alloc (.cells #[.string sx, .string sy] 9)) fun e w' => e = .returned (.bool true) ∧ Below (W.alloc (.cells #[.string sx, .string sy] 9)).heap.size (W.alloc (.cells #[.string sx, .string sy] 9)) w' := fun W hW => k31 ((HF.out.2.2.1.below (hW.out.trans (((Below.refl _ W).alloc (Nat.le_refl _) _).mono hW.out.size))).rp) (heap_alloc_new W _)
  clear hn3 hn4 hn5 b0 e0 e1 e2 e3 e4 e5 HX H14
  go_upto_region 13 with (first
    | (go_at_call 7; refine (knum _ _).mono ?_; rintro e wn ⟨rfl, hwn⟩; subst hwn; dsimp only))
  go_wp2_with (first
    | (go_at_call 7; refine (knum _ _).mono ?_; rintro e wn ⟨rfl, hwn⟩; subst hwn; dsimp only)
    | (go_at_call 17; refine k29w.mono ?_; rintro e w15 ⟨rfl, b15⟩; have H15 := hide b15; clear u0 u1 u2 z0 z1 z2 k29w; obtain ⟨u0, u1, u2⟩ := (HF.out.2.1.below b15).cells; have e5 := cell_stays HF.out.2.2.2 b15; have k31x := k31w _ H15; clear b15; dsimp only)
    | (go_at_call 18; refine k31x.mono ?_; rintro e w16 ⟨rfl, b16⟩; have H16 := hide (nextB (nextB (nextB HF.out.1 H15.out) ((Below.refl _ w15).alloc (Nat.le_refl _) _)) b16); clear b16; dsimp only)
    | (go_at_call 19; refine (k17 _).mono ?_; rintro e w17 ⟨rfl, b17⟩; have H17 := hide (nextB H16.out b17); clear b17; dsimp only)
    | (go_at_call 20; refine (k18 _).mono ?_; rintro e w18 ⟨rfl, b18⟩; have H18 := hide (nextB H17.out b18); clear b18; dsimp only)
    | (go_at_call 21; refine (k13 (HT.out.below H18.out)).mono ?_; rintro e w19 ⟨rfl, b19⟩; have H19 := hide (nextB H18.out b19); clear b19; dsimp only))
  go_ret
  exact ⟨rfl, H19.out⟩
end Go.Proofs.YtkdgageljgfgoaaDoor
