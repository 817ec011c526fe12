/-
  WRITESW: StampWrites' walk.
-/
import Derived.Test.YtkjabnpniingnaaGreatDoorKnown
import Derived.Test.YtkjabnpniingnaaGreatDoorRefKey
import Derived.Deep.DeepCutAuto
import Derived.Deep.CutBlock
import Derived.BigCall
import Derived.BigGuard
import Derived.BigGuardPart
import Derived.BigRegion
namespace Go.Proofs.YtkjabnpniingnaaGreatDoor
open Go.RowKit Go.Shelf
set_option linter.unusedSimpArgs false

/-- A stamp, its name, its branch, each in a block of its own. -/
def WI (w wd : World) (A B : Nat) (g r : Int) (l : ByteArray) (n x : Int) : Prop := wd.heap[w.heap.size]? = some (.cells #[.int .i64 g, .int .i64 r, .string l, .int .i64 n, .int .i64 x] 27 (0, 0)) ∧ wd.heap[A]? = some (.cells #[.int .i64 r, .string l, .int .i64 n] 25 (0, 0)) ∧ wd.heap[B]? = some (.cells #[.int .i64 r, .string l] 23 (0, 0)) ∧ Below w.heap.size w wd
theorem WI.bel {w wd : World} {A B : Nat} {g r : Int} {l : ByteArray} {n x : Int} (h : WI w wd A B g r l n x) : Below w.heap.size w wd := h.2.2.2
theorem WI.below {w wd w' : World} {A B : Nat} {g r : Int} {l : ByteArray} {n x : Int} (h : WI w wd A B g r l n x) (hb : Below wd.heap.size wd w') : WI w w' A B g r l n x := by
  obtain ⟨h1, h2, h3, h4⟩ := h
  exact ⟨(hb.block _ (Array.getElem?_eq_some_iff.1 h1).1).trans h1, (hb.block _ (Array.getElem?_eq_some_iff.1 h2).1).trans h2, (hb.block _ (Array.getElem?_eq_some_iff.1 h3).1).trans h3, h4.trans (hb.mono h4.size)⟩
theorem WI.cells {w wd : World} {A B : Nat} {g r : Int} {l : ByteArray} {n x : Int} (h : WI w wd A B g r l n x) : wd.cell? ⟨w.heap.size, 0, none⟩ = some (.int .i64 g) ∧ wd.cell? ⟨w.heap.size, 1, none⟩ = some (.int .i64 r) ∧ wd.cell? ⟨w.heap.size, 2, none⟩ = some (.string l) ∧ wd.cell? ⟨w.heap.size, 3, none⟩ = some (.int .i64 n) ∧ wd.cell? ⟨w.heap.size, 4, none⟩ = some (.int .i64 x) ∧ wd.cell? ⟨A, 0, none⟩ = some (.int .i64 r) ∧ wd.cell? ⟨A, 1, none⟩ = some (.string l) ∧ wd.cell? ⟨A, 2, none⟩ = some (.int .i64 n) ∧ wd.cell? ⟨B, 0, none⟩ = some (.int .i64 r) ∧ wd.cell? ⟨B, 1, none⟩ = some (.string l) := by
  obtain ⟨h1, h2, h3, h4⟩ := h
  obtain ⟨a0, a1, a2, a3, a4, _, _, _, _, _⟩ := blk5 h1
  obtain ⟨b0, b1, b2, _, _, _⟩ := blk3 h2
  obtain ⟨c0, c1, _, _⟩ := blk2 h3
  exact ⟨a0, a1, a2, a3, a4, b0, b1, b2, c0, c1⟩
/-- What can be read of three forms. -/
def R3 (wd : World) (a5 a7 a9 : Option Addr) (X Y Z : List Int) : Prop := Rd wd a5 X ∧ Rd wd a7 Y ∧ Rd wd a9 Z
theorem R3.below {wd w' : World} {a5 a7 a9 : Option Addr} {X Y Z : List Int} (h : R3 wd a5 a7 a9 X Y Z) (hb : Below wd.heap.size wd w') : R3 w' a5 a7 a9 X Y Z := ⟨h.1.below hb, h.2.1.below hb, h.2.2.below hb⟩
set_option maxHeartbeats 8000000 in
set_option maxRecDepth 100000 in
theorem writes_walk (g r : Int) (l : ByteArray) (n x : Int) (w : World) (hE : EnvE w) : Calls Tryz.prog 3 #[sv g r l n x] w fun e w' => e = .returned (.bool true) ∧ Below w.heap.size w w' := by
  have hb := below_new w (.cells #[.int .i64 g, .int .i64 r, .string l, .int .i64 n, .int .i64 x] 27)
  have hbk := heap_alloc_new w (.cells #[.int .i64 g, .int .i64 r, .string l, .int .i64 n, .int .i64 x] 27)
  have h9 : ∀ W, Below w.heap.size w W → Calls Tryz.prog 9 #[] W fun e w' => e = .returned (.bool true) ∧ Below W.heap.size W w' := fun W h => known_any W (hE.below h)
  have h26 := fun n W => num_any n W
  go_enter Tryz.func3, Tryz.ntmps3
  go_upto_region 1 with fail
  obtain ⟨cc0, cc1, cc2, cc3, cc4, _, _, _, _, _⟩ := blk5 hbk
  have hs1 : w.heap.size + 1 = (w.alloc (.cells #[.int .i64 g, .int .i64 r, .string l, .int .i64 n, .int .i64 x] 27)).heap.size := by simp
  generalize (w.alloc (.cells #[.int .i64 g, .int .i64 r, .string l, .int .i64 n, .int .i64 x] 27)) = w1 at hb hbk cc0 cc1 cc2 cc3 cc4 hs1 ⊢
  have HB1 := hide (And.intro hb (And.intro hbk hs1))
  clear hb hbk hs1
  have hA1 : ∀ (p : Addr) (v : Value) (o1 : Obj), w1.cell? p = some v → (w1.alloc o1).cell? p = some v := fun p v o1 hp => (Below.cell ((Below.refl _ w1).alloc (Nat.le_refl _) o1) (World.block_lt_of_cell? _ _ hp)).trans hp
  have hA2 : ∀ (p : Addr) (v : Value) (o1 o2 : Obj), w1.cell? p = some v → ((w1.alloc o1).alloc o2).cell? p = some v := fun p v o1 o2 hp => (Below.cell (((Below.refl _ w1).alloc (Nat.le_refl _) o1).alloc (by simp) o2) (World.block_lt_of_cell? _ _ hp)).trans hp
  have e11 := fun o1 => hA1 _ _ o1 cc1
  have e21 := fun o1 o2 => hA2 _ _ o1 o2 cc1
  have e12 := fun o1 => hA1 _ _ o1 cc2
  have e22 := fun o1 o2 => hA2 _ _ o1 o2 cc2
  have e13 := fun o1 => hA1 _ _ o1 cc3
  have e23 := fun o1 o2 => hA2 _ _ o1 o2 cc3
  clear hA1 hA2
  go_cut [3, 4] (fun v3 v4 wc => ∃ A B : Nat, v3 = .pointer (some ⟨A, 0, none⟩) ∧ v4 = .pointer (some ⟨B, 0, none⟩) ∧ Hid (WI w wc A B g r l n x))
  case first =>
    as_aux_lemma =>
      have hn2 : ∀ o1 o2 : Obj, (((w1.alloc o1).alloc o2).drew.heap[w1.heap.size]? = some o1 ∧ ((w1.alloc o1).alloc o2).drew.heap[w1.heap.size + 1]? = some o2) ∧ ((w1.alloc o1).alloc o2).drew.heap[w.heap.size]? = some (.cells #[.int .i64 g, .int .i64 r, .string l, .int .i64 n, .int .i64 x] 27 (0, 0)) ∧ Below w.heap.size w ((w1.alloc o1).alloc o2).drew := fun o1 o2 => by
        obtain ⟨q1, q2⟩ := new2 w1 o1 o2
        have hs := HB1.out.1.size
        have b2 : Below w1.heap.size w1 ((w1.alloc o1).alloc o2) := ((Below.refl _ w1).alloc (Nat.le_refl _) o1).alloc (by simp) o2
        have hz := HB1.out.2.2
        exact ⟨⟨q1, q2⟩, (b2.block _ (by omega)).trans HB1.out.2.1, (HB1.out.1.trans (b2.mono hs)).drew⟩
      have HN2 := hide hn2
      clear hn2
      go_region
      all_goals go_wp2
      all_goals go_meet
      all_goals exact ⟨_, _, rfl, rfl, hide ⟨(HN2.out _ _).2.1, by first | exact (HN2.out _ _).1.1 | exact (HN2.out _ _).1.2, by first | exact (HN2.out _ _).1.1 | exact (HN2.out _ _).1.2, (HN2.out _ _).2.2⟩⟩
  case rest =>
    clear e11 e21 e12 e22 e13 e23 cc0 cc1 cc2 cc3 cc4 HB1
    obtain ⟨A, B, rfl, rfl, HW⟩ := hcut
    obtain ⟨u0, u1, u2, u3, u4, u5, u6, u7, u8, u9⟩ := HW.out.cells
    by_cases hl : 9000 < l.size
    · have hl2 : (9000 : Int) < (l.size : Int) := by omega
      go_wp2_with (go_at_call 9; refine (h9 _ HW.out.bel).mono ?_; rintro e w2 ⟨rfl, b2⟩)
      go_ret
      exact ⟨rfl, HW.out.bel.trans (b2.mono HW.out.bel.size)⟩
    have hl2 : ¬ (9000 : Int) < (l.size : Int) := by omega
    obtain ⟨V, hV⟩ : ∃ V, V = stampV g r l n x := ⟨_, rfl⟩
    obtain ⟨N, hN⟩ : ∃ N, N = nameV r l n := ⟨_, rfl⟩
    obtain ⟨Bo, hBo⟩ : ∃ Bo, Bo = branchV r l := ⟨_, rfl⟩
    obtain ⟨X, hX⟩ : ∃ X, X = (if stampV g r l n x then stL g r l n x else []) := ⟨_, rfl⟩
    obtain ⟨Y, hY⟩ : ∃ Y, Y = (if nameV r l n then nmL r l n else []) := ⟨_, rfl⟩
    obtain ⟨Z, hZ⟩ : ∃ Z, Z = (if branchV r l then brL r l else []) := ⟨_, rfl⟩
    obtain ⟨TX, hTX⟩ : ∃ TX, TX = (if stampV g r l n x then stT g r l n x else ⟨#[]⟩) := ⟨_, rfl⟩
    obtain ⟨TY, hTY⟩ : ∃ TY, TY = (if nameV r l n then nmT r l n else ⟨#[]⟩) := ⟨_, rfl⟩
    obtain ⟨TZ, hTZ⟩ : ∃ TZ, TZ = (if branchV r l then brT r l else ⟨#[]⟩) := ⟨_, rfl⟩
    obtain ⟨K, hK⟩ : ∃ K, K = (if stampV g r l n x then keyS g r l n x else ⟨#[]⟩) := ⟨_, rfl⟩
    obtain ⟨EX, hEX⟩ : ∃ EX : Int, EX = (if stampV g r l n x then 0 else 2) := ⟨_, rfl⟩
    obtain ⟨EY, hEY⟩ : ∃ EY : Int, EY = (if nameV r l n then 0 else 2) := ⟨_, rfl⟩
    obtain ⟨EZ, hEZ⟩ : ∃ EZ : Int, EZ = (if branchV r l then 0 else 2) := ⟨_, rfl⟩
    have h10 : ∀ W, Calls Tryz.prog 10 #[sv g r l n x] W fun e w' => (∃ a c, e = .returned (.tuple #[.slice a X.length c, .int .i64 EX]) ∧ Hid (Rd w' a X)) ∧ Below W.heap.size W w' := fun W => by
      rw [hX, hEX]; exact (put_any g r l n x W).mono fun e w' ⟨a, c, he, hr, _, hb⟩ => ⟨⟨a, c, he, hide hr⟩, hb⟩
    have h11 : ∀ W, Calls Tryz.prog 11 #[nv r l n] W fun e w' => (∃ a c, e = .returned (.tuple #[.slice a Y.length c, .int .i64 EY]) ∧ Hid (Rd w' a Y)) ∧ Below W.heap.size W w' := fun W => by
      rw [hY, hEY]; exact (putName_any r l n W).mono fun e w' ⟨a, c, he, hr, _, hb⟩ => ⟨⟨a, c, he, hide hr⟩, hb⟩
    have h12 : ∀ W, Calls Tryz.prog 12 #[bv r l] W fun e w' => (∃ a c, e = .returned (.tuple #[.slice a Z.length c, .int .i64 EZ]) ∧ Hid (Rd w' a Z)) ∧ Below W.heap.size W w' := fun W => by
      rw [hZ, hEZ]; exact (putBranch_any r l W).mono fun e w' ⟨a, c, he, hr, _, hb⟩ => ⟨⟨a, c, he, hide hr⟩, hb⟩
    have h13 : ∀ W, Below w.heap.size w W → Calls Tryz.prog 13 #[sv g r l n x] W fun e w' => e = .returned (.tuple #[.string TX, .int .i64 EX]) ∧ Below W.heap.size W w' := fun W h => by rw [hTX, hEX]; exact text_any g r l n x W (hE.below h).env
    have h14 : ∀ W, Below w.heap.size w W → Calls Tryz.prog 14 #[nv r l n] W fun e w' => e = .returned (.tuple #[.string TY, .int .i64 EY]) ∧ Below W.heap.size W w' := fun W h => by rw [hTY, hEY]; exact textName_any r l n W (hE.below h).env
    have h15 : ∀ W, Below w.heap.size w W → Calls Tryz.prog 15 #[bv r l] W fun e w' => e = .returned (.tuple #[.string TZ, .int .i64 EZ]) ∧ Below W.heap.size W w' := fun W h => by rw [hTZ, hEZ]; exact textBranch_any r l W (hE.below h).env
    have h16 : ∀ W, Calls Tryz.prog 16 #[sv g r l n x] W fun e w' => e = .returned (.tuple #[.string K, .int .i64 EX]) ∧ Below W.heap.size W w' := fun W => by rw [hK, hEX]; exact key_any g r l n x W
    have h17 : ∀ W, Calls Tryz.prog 17 #[sv g r l n x] W fun e w' => e = .returned (.bool V) ∧ Below W.heap.size W w' := fun W => by rw [hV]; exact stamp_any g r l n x W
    have h18 : ∀ W, Calls Tryz.prog 18 #[sv g r l n x] W fun e w' => e = .returned (.bool V) ∧ Below W.heap.size W w' := fun W => by rw [hV]; exact refStamp_any g r l n x W (by omega)
    have h19 : ∀ W, Calls Tryz.prog 19 #[nv r l n] W fun e w' => e = .returned (.bool N) ∧ Below W.heap.size W w' := fun W => by rw [hN]; exact name_any r l n W
    have h20 : ∀ W, Calls Tryz.prog 20 #[nv r l n] W fun e w' => e = .returned (.bool N) ∧ Below W.heap.size W w' := fun W => by rw [hN]; exact refName_any r l n W (by omega)
    have h21 : ∀ W, Calls Tryz.prog 21 #[bv r l] W fun e w' => e = .returned (.bool Bo) ∧ Below W.heap.size W w' := fun W => by rw [hBo]; exact branch_any r l W
    have h22 : ∀ W, Calls Tryz.prog 22 #[bv r l] W fun e w' => e = .returned (.bool Bo) ∧ Below W.heap.size W w' := fun W => by rw [hBo]; exact refBranch_any r l W (by omega)
    have H23 : V = true → ∀ W, Calls Tryz.prog 23 #[sv g r l n x] W fun e w' => (∃ a c, e = .returned (.slice a X.length c) ∧ Hid (Rd w' a X)) ∧ Below W.heap.size W w' := fun hv W => by
      rw [hV] at hv
      have := S_bounds hv
      rw [hX, if_pos hv]; exact (refPut_any g r l n x W (by omega) (by omega) (by omega) (by omega) (by omega) (by omega) (by omega) (by omega) (by omega)).mono fun e w' ⟨a, c, he, hr, _, hb⟩ => ⟨⟨a, c, he, hide hr.rd⟩, hb⟩
    have H24 : V = true → ∀ W, Below w.heap.size w W → Calls Tryz.prog 24 #[sv g r l n x] W fun e w' => e = .returned (.string TX) ∧ Below W.heap.size W w' := fun hv W h => by
      rw [hV] at hv
      have := S_bounds hv
      rw [hTX, if_pos hv]; exact refText_any g r l n x W (by omega) (by omega) (by omega) (by omega) (by omega) (by omega) (by omega) (by omega) (by omega) (hE.below h).env
    have H25 : V = true → ∀ W, Below w.heap.size w W → Calls Tryz.prog 25 #[sv g r l n x] W fun e w' => e = .returned (.string K) ∧ Below W.heap.size W w' := fun hv W _ => by
      rw [hV] at hv
      have := S_bounds hv
      rw [hK, if_pos hv]; exact refKey_any g r l n x W (by omega) (by omega) (by omega) (by omega) (by omega) (by omega) (by omega) (by omega) (by omega)
    have H27 : N = true → ∀ W, Calls Tryz.prog 27 #[nv r l n] W fun e w' => (∃ a c, e = .returned (.slice a Y.length c) ∧ Hid (Rd w' a Y)) ∧ Below W.heap.size W w' := fun hv W => by
      rw [hN] at hv
      have := N_bounds hv
      rw [hY, if_pos hv]; exact (refPutName_any r l n W (by omega) (by omega) (by omega) (by omega) (by omega)).mono fun e w' ⟨a, c, he, hr, _, hb⟩ => ⟨⟨a, c, he, hide hr.rd⟩, hb⟩
    have H28 : N = true → ∀ W, Below w.heap.size w W → Calls Tryz.prog 28 #[nv r l n] W fun e w' => e = .returned (.string TY) ∧ Below W.heap.size W w' := fun hv W h => by
      rw [hN] at hv
      have := N_bounds hv
      rw [hTY, if_pos hv]; exact refTextName_any r l n W (by omega) (by omega) (by omega) (by omega) (by omega) (hE.below h).env
    have H29 : Bo = true → ∀ W, Calls Tryz.prog 29 #[bv r l] W fun e w' => (∃ a c, e = .returned (.slice a Z.length c) ∧ Hid (Rd w' a Z)) ∧ Below W.heap.size W w' := fun hv W => by
      rw [hBo] at hv
      have := B_bounds hv
      rw [hZ, if_pos hv]; exact (refPutBranch_any r l W (by omega) (by omega) (by omega)).mono fun e w' ⟨a, c, he, hr, _, hb⟩ => ⟨⟨a, c, he, hide hr.rd⟩, hb⟩
    have H30 : Bo = true → ∀ W, Below w.heap.size w W → Calls Tryz.prog 30 #[bv r l] W fun e w' => e = .returned (.string TZ) ∧ Below W.heap.size W w' := fun hv W h => by
      rw [hBo] at hv
      have := B_bounds hv
      rw [hTZ, if_pos hv]; exact refTextBranch_any r l W (by omega) (by omega) (by omega) (hE.below h).env
    have HVt : V = true → EX = 0 := fun hv => by rw [hEX, if_pos (hV ▸ hv)]
    have HNt : N = true → EY = 0 := fun hv => by rw [hEY, if_pos (hN ▸ hv)]
    have HBt : Bo = true → EZ = 0 := fun hv => by rw [hEZ, if_pos (hBo ▸ hv)]
    have HVf : V = false → X = [] ∧ TX = ⟨#[]⟩ ∧ K = ⟨#[]⟩ ∧ EX = 2 := fun hv => by rw [hV] at hv; rw [hX, hTX, hK, hEX, hv]; exact ⟨rfl, rfl, rfl, rfl⟩
    have HNf : N = false → Y = [] ∧ TY = ⟨#[]⟩ ∧ EY = 2 := fun hv => by rw [hN] at hv; rw [hY, hTY, hEY, hv]; exact ⟨rfl, rfl, rfl⟩
    have HBf : Bo = false → Z = [] ∧ TZ = ⟨#[]⟩ ∧ EZ = 2 := fun hv => by rw [hBo] at hv; rw [hZ, hTZ, hEZ, hv]; exact ⟨rfl, rfl, rfl⟩
    clear hV hN hBo hX hY hZ hTX hTY hTZ hK hEX hEY hEZ
    go_wp2_with (go_at_call 10; refine (h10 _).mono ?_; rintro e w2 ⟨⟨a5, c5, rfl, R5⟩, b2⟩; clear u0 u1 u2 u3 u4 u5 u6 u7 u8 u9; replace HW := hide (HW.out.below b2); obtain ⟨u0, u1, u2, u3, u4, u5, u6, u7, u8, u9⟩ := HW.out.cells; clear b2; dsimp only)
    go_wp2_with (go_at_call 11; refine (h11 _).mono ?_; rintro e w3 ⟨⟨a7, c7, rfl, R7⟩, b3⟩; clear u0 u1 u2 u3 u4 u5 u6 u7 u8 u9; replace HW := hide (HW.out.below b3); replace R5 := hide (R5.out.below b3); obtain ⟨u0, u1, u2, u3, u4, u5, u6, u7, u8, u9⟩ := HW.out.cells; clear b3; dsimp only)
    go_wp2_with (go_at_call 12; refine (h12 _).mono ?_; rintro e w4 ⟨⟨a9, c9, rfl, R9⟩, b4⟩; clear u0 u1 u2 u3 u4 u5 u6 u7 u8 u9; replace HW := hide (HW.out.below b4); have HR : Hid (R3 w4 a5 a7 a9 X Y Z) := hide ⟨R5.out.below b4, R7.out.below b4, R9.out⟩; obtain ⟨u0, u1, u2, u3, u4, u5, u6, u7, u8, u9⟩ := HW.out.cells; clear b4 R5 R7 R9; dsimp only)
    go_wp2_with (go_at_call 13; refine (h13 _ HW.out.bel).mono ?_; rintro e w5 ⟨rfl, b5⟩; clear u0 u1 u2 u3 u4 u5 u6 u7 u8 u9; replace HW := hide (HW.out.below b5); replace HR := hide (HR.out.below b5); obtain ⟨u0, u1, u2, u3, u4, u5, u6, u7, u8, u9⟩ := HW.out.cells; clear b5; dsimp only)
    go_wp2_with (go_at_call 14; refine (h14 _ HW.out.bel).mono ?_; rintro e w6 ⟨rfl, b6⟩; clear u0 u1 u2 u3 u4 u5 u6 u7 u8 u9; replace HW := hide (HW.out.below b6); replace HR := hide (HR.out.below b6); obtain ⟨u0, u1, u2, u3, u4, u5, u6, u7, u8, u9⟩ := HW.out.cells; clear b6; dsimp only)
    go_wp2_with (go_at_call 15; refine (h15 _ HW.out.bel).mono ?_; rintro e w7 ⟨rfl, b7⟩; clear u0 u1 u2 u3 u4 u5 u6 u7 u8 u9; replace HW := hide (HW.out.below b7); replace HR := hide (HR.out.below b7); obtain ⟨u0, u1, u2, u3, u4, u5, u6, u7, u8, u9⟩ := HW.out.cells; clear b7; dsimp only)
    go_wp2_with (go_at_call 16; refine (h16 _).mono ?_; rintro e WW ⟨rfl, b8⟩; clear u0 u1 u2 u3 u4 u5 u6 u7 u8 u9; replace HW := hide (HW.out.below b8); replace HR := hide (HR.out.below b8); obtain ⟨u0, u1, u2, u3, u4, u5, u6, u7, u8, u9⟩ := HW.out.cells; clear b8; dsimp only)
    have bd : Below WW.heap.size WW WW.drew := (Below.refl _ WW).drew
    replace HW := hide (HW.out.below bd)
    replace HR := hide (HR.out.below bd)
    have hS : WW.drew.cell? ⟨w.heap.size, 0, none⟩ = some (.int .i64 g) ∧ WW.drew.cell? ⟨w.heap.size, 1, none⟩ = some (.int .i64 r) ∧ WW.drew.cell? ⟨w.heap.size, 2, none⟩ = some (.string l) ∧ WW.drew.cell? ⟨w.heap.size, 3, none⟩ = some (.int .i64 n) ∧ WW.drew.cell? ⟨w.heap.size, 4, none⟩ = some (.int .i64 x) ∧ WW.drew.cell? ⟨A, 0, none⟩ = some (.int .i64 r) ∧ WW.drew.cell? ⟨A, 1, none⟩ = some (.string l) ∧ WW.drew.cell? ⟨A, 2, none⟩ = some (.int .i64 n) ∧ WW.drew.cell? ⟨B, 0, none⟩ = some (.int .i64 r) ∧ WW.drew.cell? ⟨B, 1, none⟩ = some (.string l) := HW.out.cells
    clear u0 u1 u2 u3 u4 u5 u6 u7 u8 u9 bd
    clear h10 h11 h12 h13 h14 h15 h16
    refine wp_region_held_drew (S := (fun w' => w'.cell? ⟨w.heap.size, 0, none⟩ = some (.int .i64 g) ∧ w'.cell? ⟨w.heap.size, 1, none⟩ = some (.int .i64 r) ∧ w'.cell? ⟨w.heap.size, 2, none⟩ = some (.string l) ∧ w'.cell? ⟨w.heap.size, 3, none⟩ = some (.int .i64 n) ∧ w'.cell? ⟨w.heap.size, 4, none⟩ = some (.int .i64 x) ∧ w'.cell? ⟨A, 0, none⟩ = some (.int .i64 r) ∧ w'.cell? ⟨A, 1, none⟩ = some (.string l) ∧ w'.cell? ⟨A, 2, none⟩ = some (.int .i64 n) ∧ w'.cell? ⟨B, 0, none⟩ = some (.int .i64 r) ∧ w'.cell? ⟨B, 1, none⟩ = some (.string l))) (by kernel_rfl) (by exact hS) (fun hHeld => ?_)
    try dsimp only at hHeld
    refine take_op (i := 0) (d := 64) (OP := Op.load 27 (Operand.tmp 1)) (T := 27) (v := ?vy1x) rfl rfl rfl rfl (by kernel_rfl) (by kernel_rfl) (by kernel_rfl) (fun _ _ _ h => h) (by rfl) ?hy1x hHeld ?ry1x
    case hy1x => (intro w' hSw; (try dsimp only at hSw); go_simp <;> with_reducible rfl)
    try simp only [Act.put, List.setIfInBounds_toArray, List.set_cons_zero, List.set_cons_succ]
    refine take_op (i := 2) (d := 66) (OP := Op.load 27 (Operand.tmp 1)) (T := 27) (v := ?vy2x) rfl rfl rfl rfl (by kernel_rfl) (by kernel_rfl) (by kernel_rfl) (fun _ _ _ h => h) (by rfl) ?hy2x hHeld ?ry2x
    case hy2x => (intro w' hSw; (try dsimp only at hSw); go_simp <;> with_reducible rfl)
    try simp only [Act.put, List.setIfInBounds_toArray, List.set_cons_zero, List.set_cons_succ]
    refine call_op (i := 1) (d := 65) (OP := Op.call { callee := Callee.value (Operand.func 17), args := #[Operand.tmp 64], argTypes := #[27] }) (T := 4) (f := 17) (args := #[sv g r l n x]) rfl rfl rfl rfl (by kernel_rfl) (by rfl) (by go_simp) ?_
    refine (h17 _).mono ?_
    rintro e q1 ⟨rfl, bq1⟩
    have hSq1 : q1.cell? ⟨w.heap.size, 0, none⟩ = some (.int .i64 g) ∧ q1.cell? ⟨w.heap.size, 1, none⟩ = some (.int .i64 r) ∧ q1.cell? ⟨w.heap.size, 2, none⟩ = some (.string l) ∧ q1.cell? ⟨w.heap.size, 3, none⟩ = some (.int .i64 n) ∧ q1.cell? ⟨w.heap.size, 4, none⟩ = some (.int .i64 x) ∧ q1.cell? ⟨A, 0, none⟩ = some (.int .i64 r) ∧ q1.cell? ⟨A, 1, none⟩ = some (.string l) ∧ q1.cell? ⟨A, 2, none⟩ = some (.int .i64 n) ∧ q1.cell? ⟨B, 0, none⟩ = some (.int .i64 r) ∧ q1.cell? ⟨B, 1, none⟩ = some (.string l) := ⟨kept bq1 hHeld.1, kept bq1 hHeld.2.1, kept bq1 hHeld.2.2.1, kept bq1 hHeld.2.2.2.1, kept bq1 hHeld.2.2.2.2.1, kept bq1 hHeld.2.2.2.2.2.1, kept bq1 hHeld.2.2.2.2.2.2.1, kept bq1 hHeld.2.2.2.2.2.2.2.1, kept bq1 hHeld.2.2.2.2.2.2.2.2.1, kept bq1 hHeld.2.2.2.2.2.2.2.2.2⟩
    replace HW := hide (HW.out.below bq1)
    replace HR := hide (HR.out.below bq1)
    refine ⟨_, rfl, hSq1, ?_⟩
    replace hHeld := hSq1
    try simp only [Act.put, List.setIfInBounds_toArray, List.set_cons_zero, List.set_cons_succ]
    refine call_op (i := 3) (d := 67) (OP := Op.call { callee := Callee.value (Operand.func 18), args := #[Operand.tmp 66], argTypes := #[27] }) (T := 4) (f := 18) (args := #[sv g r l n x]) rfl rfl rfl rfl (by kernel_rfl) (by rfl) (by go_simp) ?_
    refine (h18 _).mono ?_
    rintro e q2 ⟨rfl, bq2⟩
    have hSq2 : q2.cell? ⟨w.heap.size, 0, none⟩ = some (.int .i64 g) ∧ q2.cell? ⟨w.heap.size, 1, none⟩ = some (.int .i64 r) ∧ q2.cell? ⟨w.heap.size, 2, none⟩ = some (.string l) ∧ q2.cell? ⟨w.heap.size, 3, none⟩ = some (.int .i64 n) ∧ q2.cell? ⟨w.heap.size, 4, none⟩ = some (.int .i64 x) ∧ q2.cell? ⟨A, 0, none⟩ = some (.int .i64 r) ∧ q2.cell? ⟨A, 1, none⟩ = some (.string l) ∧ q2.cell? ⟨A, 2, none⟩ = some (.int .i64 n) ∧ q2.cell? ⟨B, 0, none⟩ = some (.int .i64 r) ∧ q2.cell? ⟨B, 1, none⟩ = some (.string l) := ⟨kept bq2 hHeld.1, kept bq2 hHeld.2.1, kept bq2 hHeld.2.2.1, kept bq2 hHeld.2.2.2.1, kept bq2 hHeld.2.2.2.2.1, kept bq2 hHeld.2.2.2.2.2.1, kept bq2 hHeld.2.2.2.2.2.2.1, kept bq2 hHeld.2.2.2.2.2.2.2.1, kept bq2 hHeld.2.2.2.2.2.2.2.2.1, kept bq2 hHeld.2.2.2.2.2.2.2.2.2⟩
    replace HW := hide (HW.out.below bq2)
    replace HR := hide (HR.out.below bq2)
    refine ⟨_, rfl, hSq2, ?_⟩
    replace hHeld := hSq2
    try simp only [Act.put, List.setIfInBounds_toArray, List.set_cons_zero, List.set_cons_succ]
    refine take_op (i := 4) (d := 68) (OP := Op.binOp BinOp.neq 4 (Operand.tmp 65) (Operand.tmp 67) 4) (T := 4) (v := ?vy3x) rfl rfl rfl rfl (by kernel_rfl) (by kernel_rfl) (by kernel_rfl) (fun _ _ _ h => h) (by rfl) ?hy3x hHeld ?ry3x
    case hy3x => (intro w' hSw; (try dsimp only at hSw); go_simp <;> with_reducible rfl)
    try simp only [Act.put, List.setIfInBounds_toArray, List.set_cons_zero, List.set_cons_succ]
    refine take_op (i := 5) (d := 69) (OP := Op.move (Operand.tmp 68)) (T := 4) (v := ?vy4x) rfl rfl rfl rfl (by kernel_rfl) (by kernel_rfl) (by kernel_rfl) (fun _ _ _ h => h) (by rfl) ?hy4x hHeld ?ry4x
    case hy4x => (intro w' hSw; (try dsimp only at hSw); go_simp <;> with_reducible rfl)
    try simp only [Act.put, List.setIfInBounds_toArray, List.set_cons_zero, List.set_cons_succ]
    refine take_op (i := 6) (d := 70) (OP := Op.load 25 (Operand.tmp 3)) (T := 25) (v := ?vy5x) rfl rfl rfl rfl (by kernel_rfl) (by kernel_rfl) (by kernel_rfl) (fun _ _ _ h => h) (by rfl) ?hy5x hHeld ?ry5x
    case hy5x => (intro w' hSw; (try dsimp only at hSw); go_simp <;> with_reducible rfl)
    try simp only [Act.put, List.setIfInBounds_toArray, List.set_cons_zero, List.set_cons_succ]
    refine take_op (i := 8) (d := 72) (OP := Op.load 25 (Operand.tmp 3)) (T := 25) (v := ?vy6x) rfl rfl rfl rfl (by kernel_rfl) (by kernel_rfl) (by kernel_rfl) (fun _ _ _ h => h) (by rfl) ?hy6x hHeld ?ry6x
    case hy6x => (intro w' hSw; (try dsimp only at hSw); go_simp <;> with_reducible rfl)
    try simp only [Act.put, List.setIfInBounds_toArray, List.set_cons_zero, List.set_cons_succ]
    refine call_op (i := 7) (d := 71) (OP := Op.call { callee := Callee.value (Operand.func 19), args := #[Operand.tmp 70], argTypes := #[25] }) (T := 4) (f := 19) (args := #[nv r l n]) rfl rfl rfl rfl (by kernel_rfl) (by rfl) (by go_simp) ?_
    refine (h19 _).mono ?_
    rintro e q3 ⟨rfl, bq3⟩
    have hSq3 : q3.cell? ⟨w.heap.size, 0, none⟩ = some (.int .i64 g) ∧ q3.cell? ⟨w.heap.size, 1, none⟩ = some (.int .i64 r) ∧ q3.cell? ⟨w.heap.size, 2, none⟩ = some (.string l) ∧ q3.cell? ⟨w.heap.size, 3, none⟩ = some (.int .i64 n) ∧ q3.cell? ⟨w.heap.size, 4, none⟩ = some (.int .i64 x) ∧ q3.cell? ⟨A, 0, none⟩ = some (.int .i64 r) ∧ q3.cell? ⟨A, 1, none⟩ = some (.string l) ∧ q3.cell? ⟨A, 2, none⟩ = some (.int .i64 n) ∧ q3.cell? ⟨B, 0, none⟩ = some (.int .i64 r) ∧ q3.cell? ⟨B, 1, none⟩ = some (.string l) := ⟨kept bq3 hHeld.1, kept bq3 hHeld.2.1, kept bq3 hHeld.2.2.1, kept bq3 hHeld.2.2.2.1, kept bq3 hHeld.2.2.2.2.1, kept bq3 hHeld.2.2.2.2.2.1, kept bq3 hHeld.2.2.2.2.2.2.1, kept bq3 hHeld.2.2.2.2.2.2.2.1, kept bq3 hHeld.2.2.2.2.2.2.2.2.1, kept bq3 hHeld.2.2.2.2.2.2.2.2.2⟩
    replace HW := hide (HW.out.below bq3)
    replace HR := hide (HR.out.below bq3)
    refine ⟨_, rfl, hSq3, ?_⟩
    replace hHeld := hSq3
    try simp only [Act.put, List.setIfInBounds_toArray, List.set_cons_zero, List.set_cons_succ]
    refine call_op (i := 9) (d := 73) (OP := Op.call { callee := Callee.value (Operand.func 20), args := #[Operand.tmp 72], argTypes := #[25] }) (T := 4) (f := 20) (args := #[nv r l n]) rfl rfl rfl rfl (by kernel_rfl) (by rfl) (by go_simp) ?_
    refine (h20 _).mono ?_
    rintro e q4 ⟨rfl, bq4⟩
    have hSq4 : q4.cell? ⟨w.heap.size, 0, none⟩ = some (.int .i64 g) ∧ q4.cell? ⟨w.heap.size, 1, none⟩ = some (.int .i64 r) ∧ q4.cell? ⟨w.heap.size, 2, none⟩ = some (.string l) ∧ q4.cell? ⟨w.heap.size, 3, none⟩ = some (.int .i64 n) ∧ q4.cell? ⟨w.heap.size, 4, none⟩ = some (.int .i64 x) ∧ q4.cell? ⟨A, 0, none⟩ = some (.int .i64 r) ∧ q4.cell? ⟨A, 1, none⟩ = some (.string l) ∧ q4.cell? ⟨A, 2, none⟩ = some (.int .i64 n) ∧ q4.cell? ⟨B, 0, none⟩ = some (.int .i64 r) ∧ q4.cell? ⟨B, 1, none⟩ = some (.string l) := ⟨kept bq4 hHeld.1, kept bq4 hHeld.2.1, kept bq4 hHeld.2.2.1, kept bq4 hHeld.2.2.2.1, kept bq4 hHeld.2.2.2.2.1, kept bq4 hHeld.2.2.2.2.2.1, kept bq4 hHeld.2.2.2.2.2.2.1, kept bq4 hHeld.2.2.2.2.2.2.2.1, kept bq4 hHeld.2.2.2.2.2.2.2.2.1, kept bq4 hHeld.2.2.2.2.2.2.2.2.2⟩
    replace HW := hide (HW.out.below bq4)
    replace HR := hide (HR.out.below bq4)
    refine ⟨_, rfl, hSq4, ?_⟩
    replace hHeld := hSq4
    try simp only [Act.put, List.setIfInBounds_toArray, List.set_cons_zero, List.set_cons_succ]
    refine take_op (i := 10) (d := 74) (OP := Op.binOp BinOp.neq 4 (Operand.tmp 71) (Operand.tmp 73) 4) (T := 4) (v := ?vy7x) rfl rfl rfl rfl (by kernel_rfl) (by kernel_rfl) (by kernel_rfl) (fun _ _ _ h => h) (by rfl) ?hy7x hHeld ?ry7x
    case hy7x => (intro w' hSw; (try dsimp only at hSw); go_simp <;> with_reducible rfl)
    try simp only [Act.put, List.setIfInBounds_toArray, List.set_cons_zero, List.set_cons_succ]
    refine take_op (i := 11) (d := 75) (OP := Op.pick (Operand.tmp 69) (Operand.const (Value.bool true)) (Operand.tmp 74)) (T := 4) (v := ?vy8x) rfl rfl rfl rfl (by kernel_rfl) (by kernel_rfl) (by kernel_rfl) (fun _ _ _ h => h) (by rfl) ?hy8x hHeld ?ry8x
    case hy8x => (intro w' hSw; (try dsimp only at hSw); go_simp <;> with_reducible rfl)
    try simp only [Act.put, List.setIfInBounds_toArray, List.set_cons_zero, List.set_cons_succ]
    refine take_op (i := 12) (d := 76) (OP := Op.move (Operand.tmp 75)) (T := 4) (v := ?vy9x) rfl rfl rfl rfl (by kernel_rfl) (by kernel_rfl) (by kernel_rfl) (fun _ _ _ h => h) (by rfl) ?hy9x hHeld ?ry9x
    case hy9x => (intro w' hSw; (try dsimp only at hSw); go_simp <;> with_reducible rfl)
    try simp only [Act.put, List.setIfInBounds_toArray, List.set_cons_zero, List.set_cons_succ]
    refine take_op (i := 13) (d := 77) (OP := Op.load 23 (Operand.tmp 4)) (T := 23) (v := ?vy10x) rfl rfl rfl rfl (by kernel_rfl) (by kernel_rfl) (by kernel_rfl) (fun _ _ _ h => h) (by rfl) ?hy10x hHeld ?ry10x
    case hy10x => (intro w' hSw; (try dsimp only at hSw); go_simp <;> with_reducible rfl)
    try simp only [Act.put, List.setIfInBounds_toArray, List.set_cons_zero, List.set_cons_succ]
    refine take_op (i := 15) (d := 79) (OP := Op.load 23 (Operand.tmp 4)) (T := 23) (v := ?vy11x) rfl rfl rfl rfl (by kernel_rfl) (by kernel_rfl) (by kernel_rfl) (fun _ _ _ h => h) (by rfl) ?hy11x hHeld ?ry11x
    case hy11x => (intro w' hSw; (try dsimp only at hSw); go_simp <;> with_reducible rfl)
    try simp only [Act.put, List.setIfInBounds_toArray, List.set_cons_zero, List.set_cons_succ]
    refine call_op (i := 14) (d := 78) (OP := Op.call { callee := Callee.value (Operand.func 21), args := #[Operand.tmp 77], argTypes := #[23] }) (T := 4) (f := 21) (args := #[bv r l]) rfl rfl rfl rfl (by kernel_rfl) (by rfl) (by go_simp) ?_
    refine (h21 _).mono ?_
    rintro e q5 ⟨rfl, bq5⟩
    have hSq5 : q5.cell? ⟨w.heap.size, 0, none⟩ = some (.int .i64 g) ∧ q5.cell? ⟨w.heap.size, 1, none⟩ = some (.int .i64 r) ∧ q5.cell? ⟨w.heap.size, 2, none⟩ = some (.string l) ∧ q5.cell? ⟨w.heap.size, 3, none⟩ = some (.int .i64 n) ∧ q5.cell? ⟨w.heap.size, 4, none⟩ = some (.int .i64 x) ∧ q5.cell? ⟨A, 0, none⟩ = some (.int .i64 r) ∧ q5.cell? ⟨A, 1, none⟩ = some (.string l) ∧ q5.cell? ⟨A, 2, none⟩ = some (.int .i64 n) ∧ q5.cell? ⟨B, 0, none⟩ = some (.int .i64 r) ∧ q5.cell? ⟨B, 1, none⟩ = some (.string l) := ⟨kept bq5 hHeld.1, kept bq5 hHeld.2.1, kept bq5 hHeld.2.2.1, kept bq5 hHeld.2.2.2.1, kept bq5 hHeld.2.2.2.2.1, kept bq5 hHeld.2.2.2.2.2.1, kept bq5 hHeld.2.2.2.2.2.2.1, kept bq5 hHeld.2.2.2.2.2.2.2.1, kept bq5 hHeld.2.2.2.2.2.2.2.2.1, kept bq5 hHeld.2.2.2.2.2.2.2.2.2⟩
    replace HW := hide (HW.out.below bq5)
    replace HR := hide (HR.out.below bq5)
    refine ⟨_, rfl, hSq5, ?_⟩
    replace hHeld := hSq5
    try simp only [Act.put, List.setIfInBounds_toArray, List.set_cons_zero, List.set_cons_succ]
    refine call_op (i := 16) (d := 80) (OP := Op.call { callee := Callee.value (Operand.func 22), args := #[Operand.tmp 79], argTypes := #[23] }) (T := 4) (f := 22) (args := #[bv r l]) rfl rfl rfl rfl (by kernel_rfl) (by rfl) (by go_simp) ?_
    refine (h22 _).mono ?_
    rintro e q6 ⟨rfl, bq6⟩
    have hSq6 : q6.cell? ⟨w.heap.size, 0, none⟩ = some (.int .i64 g) ∧ q6.cell? ⟨w.heap.size, 1, none⟩ = some (.int .i64 r) ∧ q6.cell? ⟨w.heap.size, 2, none⟩ = some (.string l) ∧ q6.cell? ⟨w.heap.size, 3, none⟩ = some (.int .i64 n) ∧ q6.cell? ⟨w.heap.size, 4, none⟩ = some (.int .i64 x) ∧ q6.cell? ⟨A, 0, none⟩ = some (.int .i64 r) ∧ q6.cell? ⟨A, 1, none⟩ = some (.string l) ∧ q6.cell? ⟨A, 2, none⟩ = some (.int .i64 n) ∧ q6.cell? ⟨B, 0, none⟩ = some (.int .i64 r) ∧ q6.cell? ⟨B, 1, none⟩ = some (.string l) := ⟨kept bq6 hHeld.1, kept bq6 hHeld.2.1, kept bq6 hHeld.2.2.1, kept bq6 hHeld.2.2.2.1, kept bq6 hHeld.2.2.2.2.1, kept bq6 hHeld.2.2.2.2.2.1, kept bq6 hHeld.2.2.2.2.2.2.1, kept bq6 hHeld.2.2.2.2.2.2.2.1, kept bq6 hHeld.2.2.2.2.2.2.2.2.1, kept bq6 hHeld.2.2.2.2.2.2.2.2.2⟩
    replace HW := hide (HW.out.below bq6)
    replace HR := hide (HR.out.below bq6)
    refine ⟨_, rfl, hSq6, ?_⟩
    replace hHeld := hSq6
    try simp only [Act.put, List.setIfInBounds_toArray, List.set_cons_zero, List.set_cons_succ]
    refine take_op (i := 17) (d := 81) (OP := Op.binOp BinOp.neq 4 (Operand.tmp 78) (Operand.tmp 80) 4) (T := 4) (v := ?vy12x) rfl rfl rfl rfl (by kernel_rfl) (by kernel_rfl) (by kernel_rfl) (fun _ _ _ h => h) (by rfl) ?hy12x hHeld ?ry12x
    case hy12x => (intro w' hSw; (try dsimp only at hSw); go_simp <;> with_reducible rfl)
    try simp only [Act.put, List.setIfInBounds_toArray, List.set_cons_zero, List.set_cons_succ]
    refine take_op (i := 18) (d := 82) (OP := Op.pick (Operand.tmp 76) (Operand.const (Value.bool true)) (Operand.tmp 81)) (T := 4) (v := ?vy13x) rfl rfl rfl rfl (by kernel_rfl) (by kernel_rfl) (by kernel_rfl) (fun _ _ _ h => h) (by rfl) ?hy13x hHeld ?ry13x
    case hy13x => (intro w' hSw; (try dsimp only at hSw); go_simp <;> with_reducible rfl)
    try simp only [Act.put, List.setIfInBounds_toArray, List.set_cons_zero, List.set_cons_succ]
    refine wpAnyH_done (by kernel_rfl) ?_ _
    clear hHeld hSq1 hSq2 hSq3 hSq4 hSq5 hSq6 bq1 bq2 bq3 bq4 bq5 bq6 hS
    obtain ⟨u0, u1, u2, u3, u4, u5, u6, u7, u8, u9⟩ := HW.out.cells
    go_upto_if 84 with (go_at_call 18; refine (h18 _).mono ?_; rintro e W4 ⟨rfl, b8⟩; clear u0 u1 u2 u3 u4 u5 u6 u7 u8 u9; replace HW := hide (HW.out.below b8); replace HR := hide (HR.out.below b8); clear b8; dsimp only)
    clear h17 h18 h19 h21
    go_cut [113] (fun v113 wd => Hid (WI w wd A B g r l n x ∧ R3 wd a5 a7 a9 X Y Z))
    case first =>
      as_aux_lemma =>
        cases V with
        | true =>
          have h23 := H23 rfl
          have h24 := H24 rfl
          have h25 := H25 rfl
          obtain rfl := HVt rfl
          clear H23 H24 H25 HVt HVf H27 H28 H29 H30 HNt HNf HBt HBf
          go_wp2
          have bd : Below W4.heap.size W4 W4.drew := (Below.refl _ W4).drew
          replace HW := hide (HW.out.below bd)
          replace HR := hide (HR.out.below bd)
          have hS : W4.drew.cell? ⟨w.heap.size, 0, none⟩ = some (.int .i64 g) ∧ W4.drew.cell? ⟨w.heap.size, 1, none⟩ = some (.int .i64 r) ∧ W4.drew.cell? ⟨w.heap.size, 2, none⟩ = some (.string l) ∧ W4.drew.cell? ⟨w.heap.size, 3, none⟩ = some (.int .i64 n) ∧ W4.drew.cell? ⟨w.heap.size, 4, none⟩ = some (.int .i64 x) ∧ Rd W4.drew a5 X := by
            obtain ⟨u0, u1, u2, u3, u4, _, _, _, _, _⟩ := HW.out.cells
            exact ⟨u0, u1, u2, u3, u4, HR.out.1⟩
          refine wp_region_held_drew (S := (fun w' => w'.cell? ⟨w.heap.size, 0, none⟩ = some (.int .i64 g) ∧ w'.cell? ⟨w.heap.size, 1, none⟩ = some (.int .i64 r) ∧ w'.cell? ⟨w.heap.size, 2, none⟩ = some (.string l) ∧ w'.cell? ⟨w.heap.size, 3, none⟩ = some (.int .i64 n) ∧ w'.cell? ⟨w.heap.size, 4, none⟩ = some (.int .i64 x) ∧ Rd w' a5 X)) (by kernel_rfl) (by exact hS) (fun hHeld => ?_)
          try dsimp only at hHeld
          refine take_op (i := 0) (d := 85) (OP := Op.move (Operand.tmp 5)) (T := 29) (v := ?vy14x) rfl rfl rfl rfl (by kernel_rfl) (by kernel_rfl) (by kernel_rfl) (fun _ _ _ h => h) (by rfl) ?hy14x hHeld ?ry14x
          case hy14x => (intro w' hSw; (try dsimp only at hSw); go_simp <;> with_reducible rfl)
          try simp only [Act.put, List.setIfInBounds_toArray, List.set_cons_zero, List.set_cons_succ]
          refine take_op (i := 1) (d := 86) (OP := Op.convert 29 9 (Operand.tmp 85)) (T := 9) (v := .string (strOfNums X)) rfl rfl rfl rfl (by kernel_rfl) (by kernel_rfl) (by kernel_rfl) (fun _ _ _ h => h) (by rfl) (fun w' hSw => exec_conv2 (v := .slice a5 X.length c5) rfl (conv_rd (n := X.length) (cap := c5) hSw.2.2.2.2.2 rfl)) hHeld ?_
          try simp only [Act.put, List.setIfInBounds_toArray, List.set_cons_zero, List.set_cons_succ]
          refine take_op (i := 2) (d := 87) (OP := Op.load 27 (Operand.tmp 1)) (T := 27) (v := ?vy15x) rfl rfl rfl rfl (by kernel_rfl) (by kernel_rfl) (by kernel_rfl) (fun _ _ _ h => h) (by rfl) ?hy15x hHeld ?ry15x
          case hy15x => (intro w' hSw; (try dsimp only at hSw); go_simp <;> with_reducible rfl)
          try simp only [Act.put, List.setIfInBounds_toArray, List.set_cons_zero, List.set_cons_succ]
          refine call_op (i := 3) (d := 88) (OP := Op.call { callee := Callee.value (Operand.func 23), args := #[Operand.tmp 87], argTypes := #[27] }) (T := 29) (f := 23) (args := #[sv g r l n x]) rfl rfl rfl rfl (by kernel_rfl) (by rfl) (by go_simp) ?_
          refine (h23 _).mono ?_
          rintro e q2 ⟨⟨a23, c23, rfl, R23⟩, bq2⟩
          have hSq2 : q2.cell? ⟨w.heap.size, 0, none⟩ = some (.int .i64 g) ∧ q2.cell? ⟨w.heap.size, 1, none⟩ = some (.int .i64 r) ∧ q2.cell? ⟨w.heap.size, 2, none⟩ = some (.string l) ∧ q2.cell? ⟨w.heap.size, 3, none⟩ = some (.int .i64 n) ∧ q2.cell? ⟨w.heap.size, 4, none⟩ = some (.int .i64 x) ∧ Rd q2 a5 X := ⟨kept bq2 hHeld.1, kept bq2 hHeld.2.1, kept bq2 hHeld.2.2.1, kept bq2 hHeld.2.2.2.1, kept bq2 hHeld.2.2.2.2.1, hHeld.2.2.2.2.2.below bq2⟩
          replace HW := hide (HW.out.below bq2)
          replace HR := hide (HR.out.below bq2)
          refine ⟨_, rfl, hSq2, ?_⟩
          replace hHeld := hSq2
          try simp only [Act.put, List.setIfInBounds_toArray, List.set_cons_zero, List.set_cons_succ]
          refine alone_op (i := 4) (d := 89) (OP := Op.convert 29 9 (Operand.tmp 88)) (T := 9) (v := .string (strOfNums X)) rfl rfl rfl rfl (by kernel_rfl) (by rfl) (exec_conv2 (v := .slice a23 X.length c23) rfl (conv_rd (n := X.length) (cap := c23) R23.out rfl)) hHeld ?_
          try simp only [Act.put, List.setIfInBounds_toArray, List.set_cons_zero, List.set_cons_succ]
          refine take_op (i := 5) (d := 90) (OP := Op.binOp BinOp.neq 9 (Operand.tmp 86) (Operand.tmp 89) 9) (T := 4) (v := ?vy16x) rfl rfl rfl rfl (by kernel_rfl) (by kernel_rfl) (by kernel_rfl) (fun _ _ _ h => h) (by rfl) ?hy16x hHeld ?ry16x
          case hy16x => (intro w' hSw; (try dsimp only at hSw); go_simp <;> with_reducible rfl)
          try simp only [Act.put, List.setIfInBounds_toArray, List.set_cons_zero, List.set_cons_succ]
          refine take_op (i := 6) (d := 91) (OP := Op.move (Operand.tmp 90)) (T := 4) (v := ?vy17x) rfl rfl rfl rfl (by kernel_rfl) (by kernel_rfl) (by kernel_rfl) (fun _ _ _ h => h) (by rfl) ?hy17x hHeld ?ry17x
          case hy17x => (intro w' hSw; (try dsimp only at hSw); go_simp <;> with_reducible rfl)
          try simp only [Act.put, List.setIfInBounds_toArray, List.set_cons_zero, List.set_cons_succ]
          refine take_op (i := 7) (d := 92) (OP := Op.move (Operand.tmp 11)) (T := 9) (v := ?vy18x) rfl rfl rfl rfl (by kernel_rfl) (by kernel_rfl) (by kernel_rfl) (fun _ _ _ h => h) (by rfl) ?hy18x hHeld ?ry18x
          case hy18x => (intro w' hSw; (try dsimp only at hSw); go_simp <;> with_reducible rfl)
          try simp only [Act.put, List.setIfInBounds_toArray, List.set_cons_zero, List.set_cons_succ]
          refine take_op (i := 8) (d := 93) (OP := Op.load 27 (Operand.tmp 1)) (T := 27) (v := ?vy19x) rfl rfl rfl rfl (by kernel_rfl) (by kernel_rfl) (by kernel_rfl) (fun _ _ _ h => h) (by rfl) ?hy19x hHeld ?ry19x
          case hy19x => (intro w' hSw; (try dsimp only at hSw); go_simp <;> with_reducible rfl)
          try simp only [Act.put, List.setIfInBounds_toArray, List.set_cons_zero, List.set_cons_succ]
          refine call_op (i := 9) (d := 94) (OP := Op.call { callee := Callee.value (Operand.func 24), args := #[Operand.tmp 93], argTypes := #[27] }) (T := 9) (f := 24) (args := #[sv g r l n x]) rfl rfl rfl rfl (by kernel_rfl) (by rfl) (by go_simp) ?_
          refine (h24 _ HW.out.bel).mono ?_
          rintro e q3 ⟨rfl, bq3⟩
          have hSq3 : q3.cell? ⟨w.heap.size, 0, none⟩ = some (.int .i64 g) ∧ q3.cell? ⟨w.heap.size, 1, none⟩ = some (.int .i64 r) ∧ q3.cell? ⟨w.heap.size, 2, none⟩ = some (.string l) ∧ q3.cell? ⟨w.heap.size, 3, none⟩ = some (.int .i64 n) ∧ q3.cell? ⟨w.heap.size, 4, none⟩ = some (.int .i64 x) ∧ Rd q3 a5 X := ⟨kept bq3 hHeld.1, kept bq3 hHeld.2.1, kept bq3 hHeld.2.2.1, kept bq3 hHeld.2.2.2.1, kept bq3 hHeld.2.2.2.2.1, hHeld.2.2.2.2.2.below bq3⟩
          replace HW := hide (HW.out.below bq3)
          replace HR := hide (HR.out.below bq3)
          refine ⟨_, rfl, hSq3, ?_⟩
          replace hHeld := hSq3
          try simp only [Act.put, List.setIfInBounds_toArray, List.set_cons_zero, List.set_cons_succ]
          refine take_op (i := 10) (d := 95) (OP := Op.binOp BinOp.neq 9 (Operand.tmp 92) (Operand.tmp 94) 9) (T := 4) (v := ?vy20x) rfl rfl rfl rfl (by kernel_rfl) (by kernel_rfl) (by kernel_rfl) (fun _ _ _ h => h) (by rfl) ?hy20x hHeld ?ry20x
          case hy20x => (intro w' hSw; (try dsimp only at hSw); go_simp <;> with_reducible rfl)
          try simp only [Act.put, List.setIfInBounds_toArray, List.set_cons_zero, List.set_cons_succ]
          refine take_op (i := 11) (d := 96) (OP := Op.pick (Operand.tmp 91) (Operand.const (Value.bool true)) (Operand.tmp 95)) (T := 4) (v := ?vy21x) rfl rfl rfl rfl (by kernel_rfl) (by kernel_rfl) (by kernel_rfl) (fun _ _ _ h => h) (by rfl) ?hy21x hHeld ?ry21x
          case hy21x => (intro w' hSw; (try dsimp only at hSw); go_simp <;> with_reducible rfl)
          try simp only [Act.put, List.setIfInBounds_toArray, List.set_cons_zero, List.set_cons_succ]
          refine take_op (i := 12) (d := 97) (OP := Op.move (Operand.tmp 96)) (T := 4) (v := ?vy22x) rfl rfl rfl rfl (by kernel_rfl) (by kernel_rfl) (by kernel_rfl) (fun _ _ _ h => h) (by rfl) ?hy22x hHeld ?ry22x
          case hy22x => (intro w' hSw; (try dsimp only at hSw); go_simp <;> with_reducible rfl)
          try simp only [Act.put, List.setIfInBounds_toArray, List.set_cons_zero, List.set_cons_succ]
          refine take_op (i := 13) (d := 98) (OP := Op.move (Operand.tmp 17)) (T := 9) (v := ?vy23x) rfl rfl rfl rfl (by kernel_rfl) (by kernel_rfl) (by kernel_rfl) (fun _ _ _ h => h) (by rfl) ?hy23x hHeld ?ry23x
          case hy23x => (intro w' hSw; (try dsimp only at hSw); go_simp <;> with_reducible rfl)
          try simp only [Act.put, List.setIfInBounds_toArray, List.set_cons_zero, List.set_cons_succ]
          refine take_op (i := 14) (d := 99) (OP := Op.load 27 (Operand.tmp 1)) (T := 27) (v := ?vy24x) rfl rfl rfl rfl (by kernel_rfl) (by kernel_rfl) (by kernel_rfl) (fun _ _ _ h => h) (by rfl) ?hy24x hHeld ?ry24x
          case hy24x => (intro w' hSw; (try dsimp only at hSw); go_simp <;> with_reducible rfl)
          try simp only [Act.put, List.setIfInBounds_toArray, List.set_cons_zero, List.set_cons_succ]
          refine call_op (i := 15) (d := 100) (OP := Op.call { callee := Callee.value (Operand.func 25), args := #[Operand.tmp 99], argTypes := #[27] }) (T := 9) (f := 25) (args := #[sv g r l n x]) rfl rfl rfl rfl (by kernel_rfl) (by rfl) (by go_simp) ?_
          refine (h25 _ HW.out.bel).mono ?_
          rintro e q4 ⟨rfl, bq4⟩
          have hSq4 : q4.cell? ⟨w.heap.size, 0, none⟩ = some (.int .i64 g) ∧ q4.cell? ⟨w.heap.size, 1, none⟩ = some (.int .i64 r) ∧ q4.cell? ⟨w.heap.size, 2, none⟩ = some (.string l) ∧ q4.cell? ⟨w.heap.size, 3, none⟩ = some (.int .i64 n) ∧ q4.cell? ⟨w.heap.size, 4, none⟩ = some (.int .i64 x) ∧ Rd q4 a5 X := ⟨kept bq4 hHeld.1, kept bq4 hHeld.2.1, kept bq4 hHeld.2.2.1, kept bq4 hHeld.2.2.2.1, kept bq4 hHeld.2.2.2.2.1, hHeld.2.2.2.2.2.below bq4⟩
          replace HW := hide (HW.out.below bq4)
          replace HR := hide (HR.out.below bq4)
          refine ⟨_, rfl, hSq4, ?_⟩
          replace hHeld := hSq4
          try simp only [Act.put, List.setIfInBounds_toArray, List.set_cons_zero, List.set_cons_succ]
          refine take_op (i := 16) (d := 101) (OP := Op.binOp BinOp.neq 9 (Operand.tmp 98) (Operand.tmp 100) 9) (T := 4) (v := ?vy25x) rfl rfl rfl rfl (by kernel_rfl) (by kernel_rfl) (by kernel_rfl) (fun _ _ _ h => h) (by rfl) ?hy25x hHeld ?ry25x
          case hy25x => (intro w' hSw; (try dsimp only at hSw); go_simp <;> with_reducible rfl)
          try simp only [Act.put, List.setIfInBounds_toArray, List.set_cons_zero, List.set_cons_succ]
          refine take_op (i := 17) (d := 102) (OP := Op.pick (Operand.tmp 97) (Operand.const (Value.bool true)) (Operand.tmp 101)) (T := 4) (v := ?vy26x) rfl rfl rfl rfl (by kernel_rfl) (by kernel_rfl) (by kernel_rfl) (fun _ _ _ h => h) (by rfl) ?hy26x hHeld ?ry26x
          case hy26x => (intro w' hSw; (try dsimp only at hSw); go_simp <;> with_reducible rfl)
          try simp only [Act.put, List.setIfInBounds_toArray, List.set_cons_zero, List.set_cons_succ]
          refine take_op (i := 18) (d := 103) (OP := Op.move (Operand.tmp 102)) (T := 4) (v := ?vy27x) rfl rfl rfl rfl (by kernel_rfl) (by kernel_rfl) (by kernel_rfl) (fun _ _ _ h => h) (by rfl) ?hy27x hHeld ?ry27x
          case hy27x => (intro w' hSw; (try dsimp only at hSw); go_simp <;> with_reducible rfl)
          try simp only [Act.put, List.setIfInBounds_toArray, List.set_cons_zero, List.set_cons_succ]
          refine take_op (i := 19) (d := 104) (OP := Op.move (Operand.tmp 6)) (T := 30) (v := ?vy28x) rfl rfl rfl rfl (by kernel_rfl) (by kernel_rfl) (by kernel_rfl) (fun _ _ _ h => h) (by rfl) ?hy28x hHeld ?ry28x
          case hy28x => (intro w' hSw; (try dsimp only at hSw); go_simp <;> with_reducible rfl)
          try simp only [Act.put, List.setIfInBounds_toArray, List.set_cons_zero, List.set_cons_succ]
          refine take_op (i := 21) (d := 106) (OP := Op.move (Operand.tmp 12)) (T := 30) (v := ?vy29x) rfl rfl rfl rfl (by kernel_rfl) (by kernel_rfl) (by kernel_rfl) (fun _ _ _ h => h) (by rfl) ?hy29x hHeld ?ry29x
          case hy29x => (intro w' hSw; (try dsimp only at hSw); go_simp <;> with_reducible rfl)
          try simp only [Act.put, List.setIfInBounds_toArray, List.set_cons_zero, List.set_cons_succ]
          refine take_op (i := 24) (d := 109) (OP := Op.move (Operand.tmp 18)) (T := 30) (v := ?vy30x) rfl rfl rfl rfl (by kernel_rfl) (by kernel_rfl) (by kernel_rfl) (fun _ _ _ h => h) (by rfl) ?hy30x hHeld ?ry30x
          case hy30x => (intro w' hSw; (try dsimp only at hSw); go_simp <;> with_reducible rfl)
          try simp only [Act.put, List.setIfInBounds_toArray, List.set_cons_zero, List.set_cons_succ]
          refine call_op (i := 20) (d := 105) (OP := Op.call { callee := Callee.value (Operand.func 26), args := #[Operand.tmp 104], argTypes := #[30] }) (T := 3) (f := 26) (args := #[.int .i64 0]) rfl rfl rfl rfl (by kernel_rfl) (by rfl) (by go_simp) ?_
          refine (h26 0 _).mono ?_
          rintro e wx ⟨rfl, rfl⟩
          refine ⟨_, rfl, hHeld, ?_⟩
          replace hHeld := hHeld
          try simp only [Act.put, List.setIfInBounds_toArray, List.set_cons_zero, List.set_cons_succ]
          refine call_op (i := 22) (d := 107) (OP := Op.call { callee := Callee.value (Operand.func 26), args := #[Operand.tmp 106], argTypes := #[30] }) (T := 3) (f := 26) (args := #[.int .i64 0]) rfl rfl rfl rfl (by kernel_rfl) (by rfl) (by go_simp) ?_
          refine (h26 0 _).mono ?_
          rintro e wx ⟨rfl, rfl⟩
          refine ⟨_, rfl, hHeld, ?_⟩
          replace hHeld := hHeld
          try simp only [Act.put, List.setIfInBounds_toArray, List.set_cons_zero, List.set_cons_succ]
          refine take_op (i := 23) (d := 108) (OP := Op.binOp BinOp.add 3 (Operand.tmp 105) (Operand.tmp 107) 3) (T := 3) (v := ?vy31x) rfl rfl rfl rfl (by kernel_rfl) (by kernel_rfl) (by kernel_rfl) (fun _ _ _ h => h) (by rfl) ?hy31x hHeld ?ry31x
          case hy31x => (intro w' hSw; (try dsimp only at hSw); go_simp <;> with_reducible rfl)
          try simp only [Act.put, List.setIfInBounds_toArray, List.set_cons_zero, List.set_cons_succ]
          refine call_op (i := 25) (d := 110) (OP := Op.call { callee := Callee.value (Operand.func 26), args := #[Operand.tmp 109], argTypes := #[30] }) (T := 3) (f := 26) (args := #[.int .i64 0]) rfl rfl rfl rfl (by kernel_rfl) (by rfl) (by go_simp) ?_
          refine (h26 0 _).mono ?_
          rintro e wx ⟨rfl, rfl⟩
          refine ⟨_, rfl, hHeld, ?_⟩
          replace hHeld := hHeld
          try simp only [Act.put, List.setIfInBounds_toArray, List.set_cons_zero, List.set_cons_succ]
          refine take_op (i := 26) (d := 111) (OP := Op.binOp BinOp.add 3 (Operand.tmp 108) (Operand.tmp 110) 3) (T := 3) (v := ?vy32x) rfl rfl rfl rfl (by kernel_rfl) (by kernel_rfl) (by kernel_rfl) (fun _ _ _ h => h) (by rfl) ?hy32x hHeld ?ry32x
          case hy32x => (intro w' hSw; (try dsimp only at hSw); go_simp <;> with_reducible rfl)
          try simp only [Act.put, List.setIfInBounds_toArray, List.set_cons_zero, List.set_cons_succ]
          refine take_op (i := 27) (d := 112) (OP := Op.binOp BinOp.neq 3 (Operand.tmp 111) (Operand.const (Value.int IntKind.i64 0)) 3) (T := 4) (v := ?vy33x) rfl rfl rfl rfl (by kernel_rfl) (by kernel_rfl) (by kernel_rfl) (fun _ _ _ h => h) (by rfl) ?hy33x hHeld ?ry33x
          case hy33x => (intro w' hSw; (try dsimp only at hSw); go_simp <;> with_reducible rfl)
          try simp only [Act.put, List.setIfInBounds_toArray, List.set_cons_zero, List.set_cons_succ]
          refine take_op (i := 28) (d := 113) (OP := Op.pick (Operand.tmp 103) (Operand.const (Value.bool true)) (Operand.tmp 112)) (T := 4) (v := ?vy34x) rfl rfl rfl rfl (by kernel_rfl) (by kernel_rfl) (by kernel_rfl) (fun _ _ _ h => h) (by rfl) ?hy34x hHeld ?ry34x
          case hy34x => (intro w' hSw; (try dsimp only at hSw); go_simp <;> with_reducible rfl)
          try simp only [Act.put, List.setIfInBounds_toArray, List.set_cons_zero, List.set_cons_succ]
          refine wpAnyH_done (by kernel_rfl) ?_ _
          clear hHeld hSq2 hSq3 hSq4 bq2 bq3 bq4 hS
          go_wp2
          go_meet
          exact hide ⟨HW.out, HR.out⟩
        | false =>
          obtain ⟨rfl, rfl, rfl, rfl⟩ := HVf rfl
          clear H23 H24 H25 HVt HVf H27 H28 H29 H30 HNt HNf HBt HBf
          go_wp2_with (go_at_call 26; refine (h26 2 _).mono ?_; rintro e wx ⟨rfl, hwx⟩; subst hwx; dsimp only)
          go_meet
          exact hide ⟨HW.out, HR.out⟩
    case rest =>
      clear H23 H24 H25 HVt HVf
      replace HW := hide hcut.out.1
      replace HR := hide hcut.out.2
      clear hcut
      obtain ⟨u0, u1, u2, u3, u4, u5, u6, u7, u8, u9⟩ := HW.out.cells
      go_upto_if 141 with (go_at_call 20; refine (h20 _).mono ?_; rintro e W4 ⟨rfl, b8⟩; clear u0 u1 u2 u3 u4 u5 u6 u7 u8 u9; replace HW := hide (HW.out.below b8); replace HR := hide (HR.out.below b8); clear b8; dsimp only)
      clear h20
      go_cut [161] (fun v161 wd => Hid (WI w wd A B g r l n x ∧ R3 wd a5 a7 a9 X Y Z))
      case first =>
        as_aux_lemma =>
          cases N with
          | true =>
            have h27 := H27 rfl
            have h28 := H28 rfl
            obtain rfl := HNt rfl
            clear H27 H28 H29 H30 HNt HNf HBt HBf
            go_wp2
            have bd : Below W4.heap.size W4 W4.drew := (Below.refl _ W4).drew
            replace HW := hide (HW.out.below bd)
            replace HR := hide (HR.out.below bd)
            have hS : W4.drew.cell? ⟨A, 0, none⟩ = some (.int .i64 r) ∧ W4.drew.cell? ⟨A, 1, none⟩ = some (.string l) ∧ W4.drew.cell? ⟨A, 2, none⟩ = some (.int .i64 n) ∧ Rd W4.drew a7 Y := by
              obtain ⟨_, _, _, _, _, u0, u1, u2, _, _⟩ := HW.out.cells
              exact ⟨u0, u1, u2, HR.out.2.1⟩
            refine wp_region_held_drew (S := (fun w' => w'.cell? ⟨A, 0, none⟩ = some (.int .i64 r) ∧ w'.cell? ⟨A, 1, none⟩ = some (.string l) ∧ w'.cell? ⟨A, 2, none⟩ = some (.int .i64 n) ∧ Rd w' a7 Y)) (by kernel_rfl) (by exact hS) (fun hHeld => ?_)
            try dsimp only at hHeld
            refine take_op (i := 0) (d := 142) (OP := Op.move (Operand.tmp 7)) (T := 29) (v := ?vy35x) rfl rfl rfl rfl (by kernel_rfl) (by kernel_rfl) (by kernel_rfl) (fun _ _ _ h => h) (by rfl) ?hy35x hHeld ?ry35x
            case hy35x => (intro w' hSw; (try dsimp only at hSw); go_simp <;> with_reducible rfl)
            try simp only [Act.put, List.setIfInBounds_toArray, List.set_cons_zero, List.set_cons_succ]
            refine take_op (i := 1) (d := 143) (OP := Op.convert 29 9 (Operand.tmp 142)) (T := 9) (v := .string (strOfNums Y)) rfl rfl rfl rfl (by kernel_rfl) (by kernel_rfl) (by kernel_rfl) (fun _ _ _ h => h) (by rfl) (fun w' hSw => exec_conv2 (v := .slice a7 Y.length c7) rfl (conv_rd (n := Y.length) (cap := c7) hSw.2.2.2 rfl)) hHeld ?_
            try simp only [Act.put, List.setIfInBounds_toArray, List.set_cons_zero, List.set_cons_succ]
            refine take_op (i := 2) (d := 144) (OP := Op.load 25 (Operand.tmp 3)) (T := 25) (v := ?vy36x) rfl rfl rfl rfl (by kernel_rfl) (by kernel_rfl) (by kernel_rfl) (fun _ _ _ h => h) (by rfl) ?hy36x hHeld ?ry36x
            case hy36x => (intro w' hSw; (try dsimp only at hSw); go_simp <;> with_reducible rfl)
            try simp only [Act.put, List.setIfInBounds_toArray, List.set_cons_zero, List.set_cons_succ]
            refine call_op (i := 3) (d := 145) (OP := Op.call { callee := Callee.value (Operand.func 27), args := #[Operand.tmp 144], argTypes := #[25] }) (T := 29) (f := 27) (args := #[nv r l n]) rfl rfl rfl rfl (by kernel_rfl) (by rfl) (by go_simp) ?_
            refine (h27 _).mono ?_
            rintro e q2 ⟨⟨a27, c27, rfl, R27⟩, bq2⟩
            have hSq2 : q2.cell? ⟨A, 0, none⟩ = some (.int .i64 r) ∧ q2.cell? ⟨A, 1, none⟩ = some (.string l) ∧ q2.cell? ⟨A, 2, none⟩ = some (.int .i64 n) ∧ Rd q2 a7 Y := ⟨kept bq2 hHeld.1, kept bq2 hHeld.2.1, kept bq2 hHeld.2.2.1, hHeld.2.2.2.below bq2⟩
            replace HW := hide (HW.out.below bq2)
            replace HR := hide (HR.out.below bq2)
            refine ⟨_, rfl, hSq2, ?_⟩
            replace hHeld := hSq2
            try simp only [Act.put, List.setIfInBounds_toArray, List.set_cons_zero, List.set_cons_succ]
            refine alone_op (i := 4) (d := 146) (OP := Op.convert 29 9 (Operand.tmp 145)) (T := 9) (v := .string (strOfNums Y)) rfl rfl rfl rfl (by kernel_rfl) (by rfl) (exec_conv2 (v := .slice a27 Y.length c27) rfl (conv_rd (n := Y.length) (cap := c27) R27.out rfl)) hHeld ?_
            try simp only [Act.put, List.setIfInBounds_toArray, List.set_cons_zero, List.set_cons_succ]
            refine take_op (i := 5) (d := 147) (OP := Op.binOp BinOp.neq 9 (Operand.tmp 143) (Operand.tmp 146) 9) (T := 4) (v := ?vy37x) rfl rfl rfl rfl (by kernel_rfl) (by kernel_rfl) (by kernel_rfl) (fun _ _ _ h => h) (by rfl) ?hy37x hHeld ?ry37x
            case hy37x => (intro w' hSw; (try dsimp only at hSw); go_simp <;> with_reducible rfl)
            try simp only [Act.put, List.setIfInBounds_toArray, List.set_cons_zero, List.set_cons_succ]
            refine take_op (i := 6) (d := 148) (OP := Op.move (Operand.tmp 147)) (T := 4) (v := ?vy38x) rfl rfl rfl rfl (by kernel_rfl) (by kernel_rfl) (by kernel_rfl) (fun _ _ _ h => h) (by rfl) ?hy38x hHeld ?ry38x
            case hy38x => (intro w' hSw; (try dsimp only at hSw); go_simp <;> with_reducible rfl)
            try simp only [Act.put, List.setIfInBounds_toArray, List.set_cons_zero, List.set_cons_succ]
            refine take_op (i := 7) (d := 149) (OP := Op.move (Operand.tmp 13)) (T := 9) (v := ?vy39x) rfl rfl rfl rfl (by kernel_rfl) (by kernel_rfl) (by kernel_rfl) (fun _ _ _ h => h) (by rfl) ?hy39x hHeld ?ry39x
            case hy39x => (intro w' hSw; (try dsimp only at hSw); go_simp <;> with_reducible rfl)
            try simp only [Act.put, List.setIfInBounds_toArray, List.set_cons_zero, List.set_cons_succ]
            refine take_op (i := 8) (d := 150) (OP := Op.load 25 (Operand.tmp 3)) (T := 25) (v := ?vy40x) rfl rfl rfl rfl (by kernel_rfl) (by kernel_rfl) (by kernel_rfl) (fun _ _ _ h => h) (by rfl) ?hy40x hHeld ?ry40x
            case hy40x => (intro w' hSw; (try dsimp only at hSw); go_simp <;> with_reducible rfl)
            try simp only [Act.put, List.setIfInBounds_toArray, List.set_cons_zero, List.set_cons_succ]
            refine call_op (i := 9) (d := 151) (OP := Op.call { callee := Callee.value (Operand.func 28), args := #[Operand.tmp 150], argTypes := #[25] }) (T := 9) (f := 28) (args := #[nv r l n]) rfl rfl rfl rfl (by kernel_rfl) (by rfl) (by go_simp) ?_
            refine (h28 _ HW.out.bel).mono ?_
            rintro e q3 ⟨rfl, bq3⟩
            have hSq3 : q3.cell? ⟨A, 0, none⟩ = some (.int .i64 r) ∧ q3.cell? ⟨A, 1, none⟩ = some (.string l) ∧ q3.cell? ⟨A, 2, none⟩ = some (.int .i64 n) ∧ Rd q3 a7 Y := ⟨kept bq3 hHeld.1, kept bq3 hHeld.2.1, kept bq3 hHeld.2.2.1, hHeld.2.2.2.below bq3⟩
            replace HW := hide (HW.out.below bq3)
            replace HR := hide (HR.out.below bq3)
            refine ⟨_, rfl, hSq3, ?_⟩
            replace hHeld := hSq3
            try simp only [Act.put, List.setIfInBounds_toArray, List.set_cons_zero, List.set_cons_succ]
            refine take_op (i := 10) (d := 152) (OP := Op.binOp BinOp.neq 9 (Operand.tmp 149) (Operand.tmp 151) 9) (T := 4) (v := ?vy41x) rfl rfl rfl rfl (by kernel_rfl) (by kernel_rfl) (by kernel_rfl) (fun _ _ _ h => h) (by rfl) ?hy41x hHeld ?ry41x
            case hy41x => (intro w' hSw; (try dsimp only at hSw); go_simp <;> with_reducible rfl)
            try simp only [Act.put, List.setIfInBounds_toArray, List.set_cons_zero, List.set_cons_succ]
            refine take_op (i := 11) (d := 153) (OP := Op.pick (Operand.tmp 148) (Operand.const (Value.bool true)) (Operand.tmp 152)) (T := 4) (v := ?vy42x) rfl rfl rfl rfl (by kernel_rfl) (by kernel_rfl) (by kernel_rfl) (fun _ _ _ h => h) (by rfl) ?hy42x hHeld ?ry42x
            case hy42x => (intro w' hSw; (try dsimp only at hSw); go_simp <;> with_reducible rfl)
            try simp only [Act.put, List.setIfInBounds_toArray, List.set_cons_zero, List.set_cons_succ]
            refine take_op (i := 12) (d := 154) (OP := Op.move (Operand.tmp 153)) (T := 4) (v := ?vy43x) rfl rfl rfl rfl (by kernel_rfl) (by kernel_rfl) (by kernel_rfl) (fun _ _ _ h => h) (by rfl) ?hy43x hHeld ?ry43x
            case hy43x => (intro w' hSw; (try dsimp only at hSw); go_simp <;> with_reducible rfl)
            try simp only [Act.put, List.setIfInBounds_toArray, List.set_cons_zero, List.set_cons_succ]
            refine take_op (i := 13) (d := 155) (OP := Op.move (Operand.tmp 8)) (T := 30) (v := ?vy44x) rfl rfl rfl rfl (by kernel_rfl) (by kernel_rfl) (by kernel_rfl) (fun _ _ _ h => h) (by rfl) ?hy44x hHeld ?ry44x
            case hy44x => (intro w' hSw; (try dsimp only at hSw); go_simp <;> with_reducible rfl)
            try simp only [Act.put, List.setIfInBounds_toArray, List.set_cons_zero, List.set_cons_succ]
            refine take_op (i := 15) (d := 157) (OP := Op.move (Operand.tmp 14)) (T := 30) (v := ?vy45x) rfl rfl rfl rfl (by kernel_rfl) (by kernel_rfl) (by kernel_rfl) (fun _ _ _ h => h) (by rfl) ?hy45x hHeld ?ry45x
            case hy45x => (intro w' hSw; (try dsimp only at hSw); go_simp <;> with_reducible rfl)
            try simp only [Act.put, List.setIfInBounds_toArray, List.set_cons_zero, List.set_cons_succ]
            refine call_op (i := 14) (d := 156) (OP := Op.call { callee := Callee.value (Operand.func 26), args := #[Operand.tmp 155], argTypes := #[30] }) (T := 3) (f := 26) (args := #[.int .i64 0]) rfl rfl rfl rfl (by kernel_rfl) (by rfl) (by go_simp) ?_
            refine (h26 0 _).mono ?_
            rintro e wx ⟨rfl, rfl⟩
            refine ⟨_, rfl, hHeld, ?_⟩
            replace hHeld := hHeld
            try simp only [Act.put, List.setIfInBounds_toArray, List.set_cons_zero, List.set_cons_succ]
            refine call_op (i := 16) (d := 158) (OP := Op.call { callee := Callee.value (Operand.func 26), args := #[Operand.tmp 157], argTypes := #[30] }) (T := 3) (f := 26) (args := #[.int .i64 0]) rfl rfl rfl rfl (by kernel_rfl) (by rfl) (by go_simp) ?_
            refine (h26 0 _).mono ?_
            rintro e wx ⟨rfl, rfl⟩
            refine ⟨_, rfl, hHeld, ?_⟩
            replace hHeld := hHeld
            try simp only [Act.put, List.setIfInBounds_toArray, List.set_cons_zero, List.set_cons_succ]
            refine take_op (i := 17) (d := 159) (OP := Op.binOp BinOp.add 3 (Operand.tmp 156) (Operand.tmp 158) 3) (T := 3) (v := ?vy46x) rfl rfl rfl rfl (by kernel_rfl) (by kernel_rfl) (by kernel_rfl) (fun _ _ _ h => h) (by rfl) ?hy46x hHeld ?ry46x
            case hy46x => (intro w' hSw; (try dsimp only at hSw); go_simp <;> with_reducible rfl)
            try simp only [Act.put, List.setIfInBounds_toArray, List.set_cons_zero, List.set_cons_succ]
            refine take_op (i := 18) (d := 160) (OP := Op.binOp BinOp.neq 3 (Operand.tmp 159) (Operand.const (Value.int IntKind.i64 0)) 3) (T := 4) (v := ?vy47x) rfl rfl rfl rfl (by kernel_rfl) (by kernel_rfl) (by kernel_rfl) (fun _ _ _ h => h) (by rfl) ?hy47x hHeld ?ry47x
            case hy47x => (intro w' hSw; (try dsimp only at hSw); go_simp <;> with_reducible rfl)
            try simp only [Act.put, List.setIfInBounds_toArray, List.set_cons_zero, List.set_cons_succ]
            refine take_op (i := 19) (d := 161) (OP := Op.pick (Operand.tmp 154) (Operand.const (Value.bool true)) (Operand.tmp 160)) (T := 4) (v := ?vy48x) rfl rfl rfl rfl (by kernel_rfl) (by kernel_rfl) (by kernel_rfl) (fun _ _ _ h => h) (by rfl) ?hy48x hHeld ?ry48x
            case hy48x => (intro w' hSw; (try dsimp only at hSw); go_simp <;> with_reducible rfl)
            try simp only [Act.put, List.setIfInBounds_toArray, List.set_cons_zero, List.set_cons_succ]
            refine wpAnyH_done (by kernel_rfl) ?_ _
            clear hHeld hSq2 hSq3 bq2 bq3 hS
            go_wp2
            go_meet
            exact hide ⟨HW.out, HR.out⟩
          | false =>
            obtain ⟨rfl, rfl, rfl⟩ := HNf rfl
            clear H27 H28 H29 H30 HNt HNf HBt HBf
            go_wp2_with (go_at_call 26; refine (h26 2 _).mono ?_; rintro e wx ⟨rfl, hwx⟩; subst hwx; dsimp only)
            go_meet
            exact hide ⟨HW.out, HR.out⟩
      case rest =>
        clear H27 H28 HNt HNf
        replace HW := hide hcut.out.1
        replace HR := hide hcut.out.2
        clear hcut
        obtain ⟨u0, u1, u2, u3, u4, u5, u6, u7, u8, u9⟩ := HW.out.cells
        cases Bo with
        | true =>
          have h29 := H29 rfl
          have h30 := H30 rfl
          obtain rfl := HBt rfl
          clear H29 H30 HBt HBf
          go_wp2_with (go_at_call 22; refine (h22 _).mono ?_; rintro e W4 ⟨rfl, b8⟩; clear u0 u1 u2 u3 u4 u5 u6 u7 u8 u9; replace HW := hide (HW.out.below b8); replace HR := hide (HR.out.below b8); clear b8; dsimp only)
          have bd : Below W4.heap.size W4 W4.drew := (Below.refl _ W4).drew
          replace HW := hide (HW.out.below bd)
          replace HR := hide (HR.out.below bd)
          have hS : W4.drew.cell? ⟨B, 0, none⟩ = some (.int .i64 r) ∧ W4.drew.cell? ⟨B, 1, none⟩ = some (.string l) ∧ Rd W4.drew a9 Z := by
            obtain ⟨_, _, _, _, _, _, _, _, u0, u1⟩ := HW.out.cells
            exact ⟨u0, u1, HR.out.2.2⟩
          refine wp_region_held_drew (S := (fun w' => w'.cell? ⟨B, 0, none⟩ = some (.int .i64 r) ∧ w'.cell? ⟨B, 1, none⟩ = some (.string l) ∧ Rd w' a9 Z)) (by kernel_rfl) (by exact hS) (fun hHeld => ?_)
          try dsimp only at hHeld
          refine take_op (i := 0) (d := 181) (OP := Op.move (Operand.tmp 9)) (T := 29) (v := ?vy49x) rfl rfl rfl rfl (by kernel_rfl) (by kernel_rfl) (by kernel_rfl) (fun _ _ _ h => h) (by rfl) ?hy49x hHeld ?ry49x
          case hy49x => (intro w' hSw; (try dsimp only at hSw); go_simp <;> with_reducible rfl)
          try simp only [Act.put, List.setIfInBounds_toArray, List.set_cons_zero, List.set_cons_succ]
          refine take_op (i := 1) (d := 182) (OP := Op.convert 29 9 (Operand.tmp 181)) (T := 9) (v := .string (strOfNums Z)) rfl rfl rfl rfl (by kernel_rfl) (by kernel_rfl) (by kernel_rfl) (fun _ _ _ h => h) (by rfl) (fun w' hSw => exec_conv2 (v := .slice a9 Z.length c9) rfl (conv_rd (n := Z.length) (cap := c9) hSw.2.2 rfl)) hHeld ?_
          try simp only [Act.put, List.setIfInBounds_toArray, List.set_cons_zero, List.set_cons_succ]
          refine take_op (i := 2) (d := 183) (OP := Op.load 23 (Operand.tmp 4)) (T := 23) (v := ?vy50x) rfl rfl rfl rfl (by kernel_rfl) (by kernel_rfl) (by kernel_rfl) (fun _ _ _ h => h) (by rfl) ?hy50x hHeld ?ry50x
          case hy50x => (intro w' hSw; (try dsimp only at hSw); go_simp <;> with_reducible rfl)
          try simp only [Act.put, List.setIfInBounds_toArray, List.set_cons_zero, List.set_cons_succ]
          refine call_op (i := 3) (d := 184) (OP := Op.call { callee := Callee.value (Operand.func 29), args := #[Operand.tmp 183], argTypes := #[23] }) (T := 29) (f := 29) (args := #[bv r l]) rfl rfl rfl rfl (by kernel_rfl) (by rfl) (by go_simp) ?_
          refine (h29 _).mono ?_
          rintro e q2 ⟨⟨a29, c29, rfl, R29⟩, bq2⟩
          have hSq2 : q2.cell? ⟨B, 0, none⟩ = some (.int .i64 r) ∧ q2.cell? ⟨B, 1, none⟩ = some (.string l) ∧ Rd q2 a9 Z := ⟨kept bq2 hHeld.1, kept bq2 hHeld.2.1, hHeld.2.2.below bq2⟩
          replace HW := hide (HW.out.below bq2)
          replace HR := hide (HR.out.below bq2)
          refine ⟨_, rfl, hSq2, ?_⟩
          replace hHeld := hSq2
          try simp only [Act.put, List.setIfInBounds_toArray, List.set_cons_zero, List.set_cons_succ]
          refine alone_op (i := 4) (d := 185) (OP := Op.convert 29 9 (Operand.tmp 184)) (T := 9) (v := .string (strOfNums Z)) rfl rfl rfl rfl (by kernel_rfl) (by rfl) (exec_conv2 (v := .slice a29 Z.length c29) rfl (conv_rd (n := Z.length) (cap := c29) R29.out rfl)) hHeld ?_
          try simp only [Act.put, List.setIfInBounds_toArray, List.set_cons_zero, List.set_cons_succ]
          refine take_op (i := 5) (d := 186) (OP := Op.binOp BinOp.eql 9 (Operand.tmp 182) (Operand.tmp 185) 9) (T := 4) (v := ?vy51x) rfl rfl rfl rfl (by kernel_rfl) (by kernel_rfl) (by kernel_rfl) (fun _ _ _ h => h) (by rfl) ?hy51x hHeld ?ry51x
          case hy51x => (intro w' hSw; (try dsimp only at hSw); go_simp <;> with_reducible rfl)
          try simp only [Act.put, List.setIfInBounds_toArray, List.set_cons_zero, List.set_cons_succ]
          refine take_op (i := 6) (d := 187) (OP := Op.move (Operand.tmp 186)) (T := 4) (v := ?vy52x) rfl rfl rfl rfl (by kernel_rfl) (by kernel_rfl) (by kernel_rfl) (fun _ _ _ h => h) (by rfl) ?hy52x hHeld ?ry52x
          case hy52x => (intro w' hSw; (try dsimp only at hSw); go_simp <;> with_reducible rfl)
          try simp only [Act.put, List.setIfInBounds_toArray, List.set_cons_zero, List.set_cons_succ]
          refine take_op (i := 7) (d := 188) (OP := Op.move (Operand.tmp 15)) (T := 9) (v := ?vy53x) rfl rfl rfl rfl (by kernel_rfl) (by kernel_rfl) (by kernel_rfl) (fun _ _ _ h => h) (by rfl) ?hy53x hHeld ?ry53x
          case hy53x => (intro w' hSw; (try dsimp only at hSw); go_simp <;> with_reducible rfl)
          try simp only [Act.put, List.setIfInBounds_toArray, List.set_cons_zero, List.set_cons_succ]
          refine take_op (i := 8) (d := 189) (OP := Op.load 23 (Operand.tmp 4)) (T := 23) (v := ?vy54x) rfl rfl rfl rfl (by kernel_rfl) (by kernel_rfl) (by kernel_rfl) (fun _ _ _ h => h) (by rfl) ?hy54x hHeld ?ry54x
          case hy54x => (intro w' hSw; (try dsimp only at hSw); go_simp <;> with_reducible rfl)
          try simp only [Act.put, List.setIfInBounds_toArray, List.set_cons_zero, List.set_cons_succ]
          refine call_op (i := 9) (d := 190) (OP := Op.call { callee := Callee.value (Operand.func 30), args := #[Operand.tmp 189], argTypes := #[23] }) (T := 9) (f := 30) (args := #[bv r l]) rfl rfl rfl rfl (by kernel_rfl) (by rfl) (by go_simp) ?_
          refine (h30 _ HW.out.bel).mono ?_
          rintro e q3 ⟨rfl, bq3⟩
          have hSq3 : q3.cell? ⟨B, 0, none⟩ = some (.int .i64 r) ∧ q3.cell? ⟨B, 1, none⟩ = some (.string l) ∧ Rd q3 a9 Z := ⟨kept bq3 hHeld.1, kept bq3 hHeld.2.1, hHeld.2.2.below bq3⟩
          replace HW := hide (HW.out.below bq3)
          replace HR := hide (HR.out.below bq3)
          refine ⟨_, rfl, hSq3, ?_⟩
          replace hHeld := hSq3
          try simp only [Act.put, List.setIfInBounds_toArray, List.set_cons_zero, List.set_cons_succ]
          refine take_op (i := 10) (d := 191) (OP := Op.binOp BinOp.eql 9 (Operand.tmp 188) (Operand.tmp 190) 9) (T := 4) (v := ?vy55x) rfl rfl rfl rfl (by kernel_rfl) (by kernel_rfl) (by kernel_rfl) (fun _ _ _ h => h) (by rfl) ?hy55x hHeld ?ry55x
          case hy55x => (intro w' hSw; (try dsimp only at hSw); go_simp <;> with_reducible rfl)
          try simp only [Act.put, List.setIfInBounds_toArray, List.set_cons_zero, List.set_cons_succ]
          refine take_op (i := 11) (d := 192) (OP := Op.pick (Operand.tmp 187) (Operand.tmp 191) (Operand.const (Value.bool false))) (T := 4) (v := ?vy56x) rfl rfl rfl rfl (by kernel_rfl) (by kernel_rfl) (by kernel_rfl) (fun _ _ _ h => h) (by rfl) ?hy56x hHeld ?ry56x
          case hy56x => (intro w' hSw; (try dsimp only at hSw); go_simp <;> with_reducible rfl)
          try simp only [Act.put, List.setIfInBounds_toArray, List.set_cons_zero, List.set_cons_succ]
          refine take_op (i := 12) (d := 193) (OP := Op.move (Operand.tmp 192)) (T := 4) (v := ?vy57x) rfl rfl rfl rfl (by kernel_rfl) (by kernel_rfl) (by kernel_rfl) (fun _ _ _ h => h) (by rfl) ?hy57x hHeld ?ry57x
          case hy57x => (intro w' hSw; (try dsimp only at hSw); go_simp <;> with_reducible rfl)
          try simp only [Act.put, List.setIfInBounds_toArray, List.set_cons_zero, List.set_cons_succ]
          refine take_op (i := 13) (d := 194) (OP := Op.move (Operand.tmp 10)) (T := 30) (v := ?vy58x) rfl rfl rfl rfl (by kernel_rfl) (by kernel_rfl) (by kernel_rfl) (fun _ _ _ h => h) (by rfl) ?hy58x hHeld ?ry58x
          case hy58x => (intro w' hSw; (try dsimp only at hSw); go_simp <;> with_reducible rfl)
          try simp only [Act.put, List.setIfInBounds_toArray, List.set_cons_zero, List.set_cons_succ]
          refine take_op (i := 15) (d := 196) (OP := Op.move (Operand.tmp 16)) (T := 30) (v := ?vy59x) rfl rfl rfl rfl (by kernel_rfl) (by kernel_rfl) (by kernel_rfl) (fun _ _ _ h => h) (by rfl) ?hy59x hHeld ?ry59x
          case hy59x => (intro w' hSw; (try dsimp only at hSw); go_simp <;> with_reducible rfl)
          try simp only [Act.put, List.setIfInBounds_toArray, List.set_cons_zero, List.set_cons_succ]
          refine call_op (i := 14) (d := 195) (OP := Op.call { callee := Callee.value (Operand.func 26), args := #[Operand.tmp 194], argTypes := #[30] }) (T := 3) (f := 26) (args := #[.int .i64 0]) rfl rfl rfl rfl (by kernel_rfl) (by rfl) (by go_simp) ?_
          refine (h26 0 _).mono ?_
          rintro e wx ⟨rfl, rfl⟩
          refine ⟨_, rfl, hHeld, ?_⟩
          replace hHeld := hHeld
          try simp only [Act.put, List.setIfInBounds_toArray, List.set_cons_zero, List.set_cons_succ]
          refine call_op (i := 16) (d := 197) (OP := Op.call { callee := Callee.value (Operand.func 26), args := #[Operand.tmp 196], argTypes := #[30] }) (T := 3) (f := 26) (args := #[.int .i64 0]) rfl rfl rfl rfl (by kernel_rfl) (by rfl) (by go_simp) ?_
          refine (h26 0 _).mono ?_
          rintro e wx ⟨rfl, rfl⟩
          refine ⟨_, rfl, hHeld, ?_⟩
          replace hHeld := hHeld
          try simp only [Act.put, List.setIfInBounds_toArray, List.set_cons_zero, List.set_cons_succ]
          refine take_op (i := 17) (d := 198) (OP := Op.binOp BinOp.add 3 (Operand.tmp 195) (Operand.tmp 197) 3) (T := 3) (v := ?vy60x) rfl rfl rfl rfl (by kernel_rfl) (by kernel_rfl) (by kernel_rfl) (fun _ _ _ h => h) (by rfl) ?hy60x hHeld ?ry60x
          case hy60x => (intro w' hSw; (try dsimp only at hSw); go_simp <;> with_reducible rfl)
          try simp only [Act.put, List.setIfInBounds_toArray, List.set_cons_zero, List.set_cons_succ]
          refine take_op (i := 18) (d := 199) (OP := Op.binOp BinOp.eql 3 (Operand.tmp 198) (Operand.const (Value.int IntKind.i64 0)) 3) (T := 4) (v := ?vy61x) rfl rfl rfl rfl (by kernel_rfl) (by kernel_rfl) (by kernel_rfl) (fun _ _ _ h => h) (by rfl) ?hy61x hHeld ?ry61x
          case hy61x => (intro w' hSw; (try dsimp only at hSw); go_simp <;> with_reducible rfl)
          try simp only [Act.put, List.setIfInBounds_toArray, List.set_cons_zero, List.set_cons_succ]
          refine take_op (i := 19) (d := 200) (OP := Op.pick (Operand.tmp 193) (Operand.tmp 199) (Operand.const (Value.bool false))) (T := 4) (v := ?vy62x) rfl rfl rfl rfl (by kernel_rfl) (by kernel_rfl) (by kernel_rfl) (fun _ _ _ h => h) (by rfl) ?hy62x hHeld ?ry62x
          case hy62x => (intro w' hSw; (try dsimp only at hSw); go_simp <;> with_reducible rfl)
          try simp only [Act.put, List.setIfInBounds_toArray, List.set_cons_zero, List.set_cons_succ]
          refine take_op (i := 20) (d := 201) (OP := Op.move (Operand.tmp 200)) (T := 4) (v := ?vy63x) rfl rfl rfl rfl (by kernel_rfl) (by kernel_rfl) (by kernel_rfl) (fun _ _ _ h => h) (by rfl) ?hy63x hHeld ?ry63x
          case hy63x => (intro w' hSw; (try dsimp only at hSw); go_simp <;> with_reducible rfl)
          try simp only [Act.put, List.setIfInBounds_toArray, List.set_cons_zero, List.set_cons_succ]
          refine call_op (i := 21) (d := 202) (OP := Op.call { callee := Callee.value (Operand.func 9), args := #[], argTypes := #[] }) (T := 4) (f := 9) (args := #[]) rfl rfl rfl rfl (by kernel_rfl) (by rfl) (by go_simp) ?_
          refine (h9 _ HW.out.bel).mono ?_
          rintro e q4 ⟨rfl, bq4⟩
          have hSq4 : q4.cell? ⟨B, 0, none⟩ = some (.int .i64 r) ∧ q4.cell? ⟨B, 1, none⟩ = some (.string l) ∧ Rd q4 a9 Z := ⟨kept bq4 hHeld.1, kept bq4 hHeld.2.1, hHeld.2.2.below bq4⟩
          replace HW := hide (HW.out.below bq4)
          replace HR := hide (HR.out.below bq4)
          refine ⟨_, rfl, hSq4, ?_⟩
          replace hHeld := hSq4
          try simp only [Act.put, List.setIfInBounds_toArray, List.set_cons_zero, List.set_cons_succ]
          refine take_op (i := 22) (d := 203) (OP := Op.pick (Operand.tmp 201) (Operand.tmp 202) (Operand.const (Value.bool false))) (T := 4) (v := ?vy64x) rfl rfl rfl rfl (by kernel_rfl) (by kernel_rfl) (by kernel_rfl) (fun _ _ _ h => h) (by rfl) ?hy64x hHeld ?ry64x
          case hy64x => (intro w' hSw; (try dsimp only at hSw); go_simp <;> with_reducible rfl)
          try simp only [Act.put, List.setIfInBounds_toArray, List.set_cons_zero, List.set_cons_succ]
          refine take_op (i := 23) (d := 2) (OP := Op.assign (Operand.tmp 203)) (T := 4) (v := ?vy65x) rfl rfl rfl rfl (by kernel_rfl) (by kernel_rfl) (by kernel_rfl) (fun _ _ _ h => h) (by rfl) ?hy65x hHeld ?ry65x
          case hy65x => (intro w' hSw; (try dsimp only at hSw); go_simp <;> with_reducible rfl)
          try simp only [Act.put, List.setIfInBounds_toArray, List.set_cons_zero, List.set_cons_succ]
          refine wpAnyH_done (by kernel_rfl) ?_ _
          go_wp2
          go_ret
          exact ⟨rfl, HW.out.bel⟩
        | false =>
          obtain ⟨rfl, rfl, rfl⟩ := HBf rfl
          clear H29 H30 HBt HBf
          go_wp2_with (go_at_call 22; refine (h22 _).mono ?_; rintro e W4 ⟨rfl, b8⟩; clear u0 u1 u2 u3 u4 u5 u6 u7 u8 u9; replace HW := hide (HW.out.below b8); replace HR := hide (HR.out.below b8); clear b8; dsimp only)
          go_wp2_with (go_at_call 26; refine (h26 2 _).mono ?_; rintro e wx ⟨rfl, hwx⟩; subst hwx; dsimp only)
          go_wp2_with (go_at_call 9; refine (h9 _ HW.out.bel).mono ?_; rintro e w9 ⟨rfl, b9⟩; replace HW := hide (HW.out.below b9); dsimp only)
          go_ret
          exact ⟨rfl, HW.out.bel⟩
end Go.Proofs.YtkjabnpniingnaaGreatDoor
