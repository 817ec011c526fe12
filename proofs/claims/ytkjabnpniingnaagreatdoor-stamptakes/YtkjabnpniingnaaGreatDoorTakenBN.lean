/-
  TAKENBN: TakeBranch, TakeName, Take of the program.
-/
import Derived.Test.YtkjabnpniingnaaGreatDoorTaken6
namespace Go.Proofs.YtkjabnpniingnaaGreatDoor
open Go.RowKit Go.Shelf
set_option linter.unusedSimpArgs false

/-- Whether a branch's form stands before the bytes. -/
def tkBV (l : List Int) : Bool := decide ((brP l 0).2.2 = 0) && branchV ((brP l 0).1.1 : Int) (brP l 0).1.2
def tkB0 (l : List Int) : Int := if tkBV l then ((brP l 0).1.1 : Int) else 0
def tkB1 (l : List Int) : ByteArray := if tkBV l then (brP l 0).1.2 else ⟨#[]⟩
def tkBL (l : List Int) : List Int := if tkBV l then (brP l 0).2.1 else l
set_option maxHeartbeats 4000000 in
set_option maxRecDepth 100000 in
theorem takenB_any (R S : Nat) (l : List Int) (w : World) (hR : Rdr 91 w R S l) (hS : S ≤ w.heap.size) (hl : l.length ≤ 140737488355328) : Calls Tryz.prog 81 #[.pointer (some ⟨R, 0, none⟩), .func (.func 82) #[] #[], .func (.func 21) #[] #[]] w fun e w' => e = .returned (.tuple #[.agg #[.int .i64 (tkB0 l), .string (tkB1 l)], .int .i64 (if tkBV l then 0 else 4)]) ∧ RdL w' R (tkBL l) ∧ Only (fun j => j = R) w w' := by
  obtain ⟨ao, cap, hh, hr, hnil, hlc, hcm, hblk, hRS, hb8⟩ := hR
  obtain ⟨m0, m1, m2, m3, hB, hs⟩ := new4 w (.cells #[.int .i64 0, .string ⟨#[]⟩] 23) (.cells #[.int .i64 0, .string ⟨#[]⟩] 23) (.cells #[.slice ao l.length cap, .bool true] 91) (.cells #[.func (.func 34) #[.pointer (some ⟨w.heap.size + 1 + 1, 0, none⟩)] #[], .func (.func 113) #[.pointer (some ⟨w.heap.size + 1 + 1, 0, none⟩)] #[], .int .i64 0] 137)
  have hRl : R < w.heap.size := by omega
  have hb2 : Below w.heap.size w ((w.alloc (.cells #[.int .i64 0, .string ⟨#[]⟩] 23)).alloc (.cells #[.int .i64 0, .string ⟨#[]⟩] 23)) := ((Below.refl _ w).alloc (Nat.le_refl _) _).alloc (by simp) _
  obtain ⟨r0, r1, _, _⟩ := blk2 ((hb2.block _ hRl).trans hh)
  have hRw := (hB.block R hRl).trans hh
  have hFd : Fd ((((w.alloc (.cells #[.int .i64 0, .string ⟨#[]⟩] 23)).alloc (.cells #[.int .i64 0, .string ⟨#[]⟩] 23)).alloc (.cells #[.slice ao l.length cap, .bool true] 91)).alloc (.cells #[.func (.func 34) #[.pointer (some ⟨w.heap.size + 1 + 1, 0, none⟩)] #[], .func (.func 113) #[.pointer (some ⟨w.heap.size + 1 + 1, 0, none⟩)] #[], .int .i64 0] 137)) (w.heap.size + 1 + 1 + 1) (w.heap.size + 1 + 1) l 0 := ⟨m3, ⟨ao, cap, m2, hr.below hB, hnil, hlc, hcm, fun a ha => by (have := hblk a ha; omega), by omega, hb8⟩, hl⟩
  have hrd := branch_rd hFd
  have h1 := ne_oneB l
  have hmay : ∀ W, Calls Tryz.prog 21 #[.agg #[.int .i64 ((brP l 0).1.1 : Int), .string (brP l 0).1.2]] W fun e w' => e = .returned (.bool (branchV ((brP l 0).1.1 : Int) (brP l 0).1.2)) ∧ Below W.heap.size W w' := fun W => branch_any ((brP l 0).1.1 : Int) (brP l 0).1.2 W
  obtain ⟨PV, hPV⟩ : ∃ PV, PV = tkBV l := ⟨_, rfl⟩
  obtain ⟨E0, hE0⟩ : ∃ E0 : Int, E0 = (if tkBV l then 0 else 4) := ⟨_, rfl⟩
  obtain ⟨A0, hA0⟩ : ∃ A0, A0 = tkB0 l := ⟨_, rfl⟩
  obtain ⟨A1, hA1⟩ : ∃ A1, A1 = tkB1 l := ⟨_, rfl⟩
  obtain ⟨L0, hL0⟩ : ∃ L0, L0 = tkBL l := ⟨_, rfl⟩
  rw [← hE0, ← hL0, ← hA0, ← hA1]
  have hF : PV = false → A0 = 0 ∧ A1 = ⟨#[]⟩ ∧ L0 = l ∧ E0 = 4 := fun h => by rw [h] at hPV; rw [hA0, hA1, hL0, hE0]; unfold tkB0 tkB1 tkBL; rw [← hPV]; exact ⟨rfl, rfl, rfl, rfl⟩
  have hT : PV = true → A0 = ((brP l 0).1.1 : Int) ∧ A1 = (brP l 0).1.2 ∧ L0 = (brP l 0).2.1 ∧ E0 = 0 := fun h => by rw [h] at hPV; rw [hA0, hA1, hL0, hE0]; unfold tkB0 tkB1 tkBL; rw [← hPV]; exact ⟨rfl, rfl, rfl, rfl⟩
  have hV : PV = (decide ((brP l 0).2.2 = 0) && branchV ((brP l 0).1.1 : Int) (brP l 0).1.2) := hPV
  clear hPV hE0 hL0 hA0 hA1
  generalize branchV ((brP l 0).1.1 : Int) (brP l 0).1.2 = VV at hmay hV
  generalize ((brP l 0).1.1 : Int) = P0 at hrd hmay hT
  generalize (brP l 0).1.2 = P1 at hrd hmay hT
  generalize (brP l 0).2.1 = l' at hrd hT
  generalize (brP l 0).2.2 = E at hrd hV h1
  have HT := hide (And.intro hF hT)
  clear hF hT hr hb8 hblk hlc hcm hnil hh hl hb2 hFd
  have key : ∀ w5, Fd w5 (w.heap.size + 1 + 1 + 1) (w.heap.size + 1 + 1) l' E → Turn (w.heap.size + 1 + 1 + 1) (w.heap.size + 1 + 1) ((((w.alloc (.cells #[.int .i64 0, .string ⟨#[]⟩] 23)).alloc (.cells #[.int .i64 0, .string ⟨#[]⟩] 23)).alloc (.cells #[.slice ao l.length cap, .bool true] 91)).alloc (.cells #[.func (.func 34) #[.pointer (some ⟨w.heap.size + 1 + 1, 0, none⟩)] #[], .func (.func 113) #[.pointer (some ⟨w.heap.size + 1 + 1, 0, none⟩)] #[], .int .i64 0] 137)) w5 → (∃ ao' cap', B6 (w5.alloc (.cells #[.int .i64 P0, .string P1] 23)) w.heap.size (w.heap.size + 1) R (w.heap.size + 1 + 1 + 1) w5.heap.size (w.heap.size + 1 + 1) (.cells #[.int .i64 0, .string ⟨#[]⟩] 23) (.cells #[.int .i64 0, .string ⟨#[]⟩] 23) (.cells #[.slice ao l.length cap, .bool true] 91) (.cells #[.func (.func 34) #[.pointer (some ⟨w.heap.size + 1 + 1, 0, none⟩)] #[], .func (.func 113) #[.pointer (some ⟨w.heap.size + 1 + 1, 0, none⟩)] #[], .int .i64 E] 137 (0, 0)) (.cells #[.int .i64 P0, .string P1] 23) (.cells #[.slice ao' l'.length cap', .bool true] 91)) ∧ Below w.heap.size w (w5.alloc (.cells #[.int .i64 P0, .string P1] 23)) ∧ R ≠ w5.heap.size := fun w5 hF5 t5 => by
    obtain ⟨hf5, ⟨ao', cap', hb5, _, _, _, _, _, _, _⟩, _⟩ := hF5
    have q5 := t5.size
    exact ⟨⟨ao', cap', bks6 w5 (.cells #[.int .i64 P0, .string P1] 23) ((t5.block _ (by omega) (by omega)).trans m0) ((t5.block _ (by omega) (by omega)).trans m1) ((t5.block R (by omega) (by omega)).trans hRw) hf5 hb5⟩, (hB.trans (t5.below (by omega) (fun k hk => by omega))).alloc (by omega) _, by omega⟩
  have hRn : w.heap.size ≠ R := by omega
  clear m0 m1 m2 m3 hRw hB hs
  by_cases hE : E = 0
  · subst hE
    cases VV with
    | false =>
      have HEQ := hide (HT.out.1 (by rw [hV]; rfl))
      clear HT hV h1
      go_enter Tryz.func81, Tryz.ntmps81
      go_wp2_with (refine wpList_store_new 137 (.tmp 10) (.tmp 20) (w.heap.size + 1 + 1 + 1) 3 [.func (.func 34) #[.pointer (some ⟨w.heap.size + 1 + 1, 0, none⟩)] #[], .func (.func 113) #[.pointer (some ⟨w.heap.size + 1 + 1, 0, none⟩)] #[], .int .i64 0] rfl rfl rfl rfl rfl (by kernel_rfl) rfl rfl (by simp) (by simp [Value.oneCell']) ?_)
      go_wp2_with (go_at_call 82; refine hrd.mono ?_; rintro e w5 ⟨rfl, hF5, t5⟩; obtain ⟨⟨ao', cap', hI⟩, hO, hRv⟩ := key w5 hF5 t5; have HI := hide hI; have HO := hide hO; clear t5 hF5 hI hO; obtain ⟨a0, a1, af0, af1⟩ := blk2 HI.out.h0; obtain ⟨b0, b1, _, _⟩ := blk2 HI.out.h1; obtain ⟨_, _, e2, _, _, _⟩ := blk3 HI.out.h3; obtain ⟨v0, v1, _, _⟩ := blk2 HI.out.h4)
      go_wp2_with (go_at_call 21; refine (hmay _).mono ?_; rintro e w7 ⟨rfl, b7⟩; have HI7 := hide (HI.out.below b7); have HO7 := hide (HO.out.trans (b7.mono HO.out.size)); clear b7 a0 af0 b0 v0 a1 af1 b1 v1 e2; obtain ⟨a0, a1, af0, af1⟩ := blk2 HI7.out.h0; obtain ⟨b0, b1, _, _⟩ := blk2 HI7.out.h1)
      refine ret_row_tmp w.heap.size [.int .i64 0, .string ⟨#[]⟩] rfl rfl rfl Tryz.underlying23 rfl (by kernel_rfl) (t := 23) (fr := (0, 0)) (set2 HI7.out.h0) rfl ?_
      exact ⟨by rw [(HEQ.out.1), (HEQ.out.2.1), (HEQ.out.2.2.2)] <;> rfl, ⟨ao, cap, by rw [HEQ.out.2.2.1, Below.heap_setCell _ _ _ _ hRn.symm, Below.heap_setCell _ _ _ _ hRn.symm]; exact HI7.out.h2⟩, (Only.ofBelow (bel2 (Nat.le_refl _) HO7.out)).mono (fun _ _ c => c.elim)⟩
    | true =>
      have HEQ := hide (HT.out.2 (by rw [hV]; rfl))
      clear HT hV h1
      go_enter Tryz.func81, Tryz.ntmps81
      go_wp2_with (refine wpList_store_new 137 (.tmp 10) (.tmp 20) (w.heap.size + 1 + 1 + 1) 3 [.func (.func 34) #[.pointer (some ⟨w.heap.size + 1 + 1, 0, none⟩)] #[], .func (.func 113) #[.pointer (some ⟨w.heap.size + 1 + 1, 0, none⟩)] #[], .int .i64 0] rfl rfl rfl rfl rfl (by kernel_rfl) rfl rfl (by simp) (by simp [Value.oneCell']) ?_)
      go_wp2_with (go_at_call 82; refine hrd.mono ?_; rintro e w5 ⟨rfl, hF5, t5⟩; obtain ⟨⟨ao', cap', hI⟩, hO, hRv⟩ := key w5 hF5 t5; have HI := hide hI; have HO := hide hO; clear t5 hF5 hI hO; obtain ⟨a0, a1, af0, af1⟩ := blk2 HI.out.h0; obtain ⟨b0, b1, _, _⟩ := blk2 HI.out.h1; obtain ⟨_, _, e2, _, _, _⟩ := blk3 HI.out.h3; obtain ⟨v0, v1, _, _⟩ := blk2 HI.out.h4)
      go_wp2_with (go_at_call 21; refine (hmay _).mono ?_; rintro e w7 ⟨rfl, b7⟩; have HI7 := hide (HI.out.below b7); have HO7 := hide (HO.out.trans (b7.mono HO.out.size)); clear b7 a0 af0 b0 v0 a1 af1 b1 v1 e2; obtain ⟨a0, a1, af0, af1⟩ := blk2 HI7.out.h0; obtain ⟨b0, b1, _, _⟩ := blk2 HI7.out.h1; obtain ⟨o0, o1, _, _⟩ := blk2 HI7.out.h5; obtain ⟨p0, p1, pf0, pf1⟩ := blk2 HI7.out.h2; have HI80 := hide (bks_set (x := .slice ao' l'.length cap') (y := .bool true) HI7.out.h0 hRn); have HI84 := hide (bks_set (x := .slice ao' l'.length cap') (y := .bool true) HI7.out.h4 hRv.symm); obtain ⟨c0, c1, cf0, cf1⟩ := blk2 HI80.out; obtain ⟨d0, d1, _, _⟩ := blk2 HI84.out)
      refine ret_row_tmp w.heap.size [.int .i64 P0, .string P1] rfl rfl rfl Tryz.underlying23 rfl (by kernel_rfl) (t := 23) (fr := (0, 0)) (set2 HI80.out) rfl ?_
      exact ⟨by rw [(HEQ.out.1), (HEQ.out.2.1), (HEQ.out.2.2.2)] <;> rfl, ⟨ao', cap', by rw [HEQ.out.2.2.1, Below.heap_setCell _ _ _ _ hRn.symm, Below.heap_setCell _ _ _ _ hRn.symm]; exact set2 HI7.out.h2⟩, only_news2 (Nat.le_refl _) (only_two HO7.out)⟩
  · have hE1 : (E == 1) = false := by rw [beq_eq_false_iff_ne]; exact h1
    have hE0 : (E == 0) = false := by rw [beq_eq_false_iff_ne]; exact hE
    have HEQ := hide (HT.out.1 (by rw [hV]; simp [hE]))
    clear HT hV h1 hE
    go_enter Tryz.func81, Tryz.ntmps81
    go_wp2_with (refine wpList_store_new 137 (.tmp 10) (.tmp 20) (w.heap.size + 1 + 1 + 1) 3 [.func (.func 34) #[.pointer (some ⟨w.heap.size + 1 + 1, 0, none⟩)] #[], .func (.func 113) #[.pointer (some ⟨w.heap.size + 1 + 1, 0, none⟩)] #[], .int .i64 0] rfl rfl rfl rfl rfl (by kernel_rfl) rfl rfl (by simp) (by simp [Value.oneCell']) ?_)
    go_wp2_with (go_at_call 82; refine hrd.mono ?_; rintro e w5 ⟨rfl, hF5, t5⟩; obtain ⟨⟨ao', cap', hI⟩, hO, hRv⟩ := key w5 hF5 t5; have HI := hide hI; have HO := hide hO; clear t5 hF5 hI hO; obtain ⟨a0, a1, af0, af1⟩ := blk2 HI.out.h0; obtain ⟨b0, b1, _, _⟩ := blk2 HI.out.h1; obtain ⟨_, _, e2, _, _, _⟩ := blk3 HI.out.h3; obtain ⟨v0, v1, _, _⟩ := blk2 HI.out.h4)
    refine ret_row_tmp w.heap.size [.int .i64 0, .string ⟨#[]⟩] rfl rfl rfl Tryz.underlying23 rfl (by kernel_rfl) (t := 23) (fr := (0, 0)) (set2 HI.out.h0) rfl ?_
    exact ⟨by rw [(HEQ.out.1), (HEQ.out.2.1), (HEQ.out.2.2.2)] <;> rfl, ⟨ao, cap, by rw [HEQ.out.2.2.1, Below.heap_setCell _ _ _ _ hRn.symm, Below.heap_setCell _ _ _ _ hRn.symm]; exact HI.out.h2⟩, (Only.ofBelow (bel2 (Nat.le_refl _) HO.out)).mono (fun _ _ c => c.elim)⟩
set_option maxHeartbeats 2000000 in
set_option maxRecDepth 100000 in
theorem takeB_any (R S : Nat) (l : List Int) (w : World) (hR : Rdr 91 w R S l) (hS : S ≤ w.heap.size) (hl : l.length ≤ 140737488355328) : Calls Tryz.prog 35 #[.pointer (some ⟨R, 0, none⟩)] w fun e w' => e = .returned (.tuple #[.agg #[.int .i64 (tkB0 l), .string (tkB1 l)], .int .i64 (if tkBV l then 0 else 4)]) ∧ RdL w' R (tkBL l) ∧ Only (fun j => j = R) w w' := by
  have hn := heap_alloc_new w (.cells #[.int .i64 0, .string ⟨#[]⟩] 23)
  have hRl : R < w.heap.size := by obtain ⟨_, _, h, _⟩ := hR; exact (Array.getElem?_eq_some_iff.1 h).1
  have hRn : w.heap.size ≠ R := by omega
  have h87 := takenB_any R S l (w.alloc (.cells #[.int .i64 0, .string ⟨#[]⟩] 23)) (hR.kept (World.grownBy_alloc w (.cells #[.int .i64 0, .string ⟨#[]⟩] 23) none) (by simp)) (by simp; omega) hl
  generalize (if tkBV l then (0 : Int) else 4) = E0 at h87 ⊢
  generalize tkBL l = L0 at h87 ⊢
  generalize tkB0 l = A0 at h87 ⊢
  generalize tkB1 l = A1 at h87 ⊢
  go_enter Tryz.func35, Tryz.ntmps35
  go_wp2_with (go_at_call 81; refine h87.mono ?_; rintro e w1 ⟨rfl, hL1, o1⟩; have HN := hide ((o1.block w.heap.size (by simp) (by omega)).trans hn); have HO := hide ((Only.ofBelow (below_new w (.cells #[.int .i64 0, .string ⟨#[]⟩] 23))).mono (fun _ _ c => c.elim) |>.trans' o1); have HL := hide hL1; obtain ⟨y0, y1, f0, f1⟩ := blk2 HN.out; clear o1 hL1)
  refine ret_row_tmp w.heap.size [.int .i64 A0, .string A1] rfl rfl rfl Tryz.underlying23 rfl (by kernel_rfl) (t := 23) (fr := (0, 0)) (set2 HN.out) rfl ?_
  obtain ⟨ao, cap, hL⟩ := HL.out
  exact ⟨rfl, ⟨ao, cap, by rw [Below.heap_setCell _ _ _ _ hRn.symm, Below.heap_setCell _ _ _ _ hRn.symm]; exact hL⟩, only_news2 (Nat.le_refl _) HO.out⟩
/-- Whether a name's form stands before the bytes. -/
def tkNV (l : List Int) : Bool := decide ((nmP l 0).2.2 = 0) && nameV ((nmP l 0).1.1 : Int) (nmP l 0).1.2.1 ((nmP l 0).1.2.2 : Int)
def tkN0 (l : List Int) : Int := if tkNV l then ((nmP l 0).1.1 : Int) else 0
def tkN1 (l : List Int) : ByteArray := if tkNV l then (nmP l 0).1.2.1 else ⟨#[]⟩
def tkN2 (l : List Int) : Int := if tkNV l then ((nmP l 0).1.2.2 : Int) else 0
def tkNL (l : List Int) : List Int := if tkNV l then (nmP l 0).2.1 else l
set_option maxHeartbeats 4000000 in
set_option maxRecDepth 100000 in
theorem takenN_any (R S : Nat) (l : List Int) (w : World) (hR : Rdr 91 w R S l) (hS : S ≤ w.heap.size) (hl : l.length ≤ 140737488355328) : Calls Tryz.prog 84 #[.pointer (some ⟨R, 0, none⟩), .func (.func 85) #[] #[], .func (.func 19) #[] #[]] w fun e w' => e = .returned (.tuple #[.agg #[.int .i64 (tkN0 l), .string (tkN1 l), .int .i64 (tkN2 l)], .int .i64 (if tkNV l then 0 else 4)]) ∧ RdL w' R (tkNL l) ∧ Only (fun j => j = R) w w' := by
  obtain ⟨ao, cap, hh, hr, hnil, hlc, hcm, hblk, hRS, hb8⟩ := hR
  obtain ⟨m0, m1, m2, m3, hB, hs⟩ := new4 w (.cells #[.int .i64 0, .string ⟨#[]⟩, .int .i64 0] 25) (.cells #[.int .i64 0, .string ⟨#[]⟩, .int .i64 0] 25) (.cells #[.slice ao l.length cap, .bool true] 91) (.cells #[.func (.func 34) #[.pointer (some ⟨w.heap.size + 1 + 1, 0, none⟩)] #[], .func (.func 113) #[.pointer (some ⟨w.heap.size + 1 + 1, 0, none⟩)] #[], .int .i64 0] 137)
  have hRl : R < w.heap.size := by omega
  have hb2 : Below w.heap.size w ((w.alloc (.cells #[.int .i64 0, .string ⟨#[]⟩, .int .i64 0] 25)).alloc (.cells #[.int .i64 0, .string ⟨#[]⟩, .int .i64 0] 25)) := ((Below.refl _ w).alloc (Nat.le_refl _) _).alloc (by simp) _
  obtain ⟨r0, r1, _, _⟩ := blk2 ((hb2.block _ hRl).trans hh)
  have hRw := (hB.block R hRl).trans hh
  have hFd : Fd ((((w.alloc (.cells #[.int .i64 0, .string ⟨#[]⟩, .int .i64 0] 25)).alloc (.cells #[.int .i64 0, .string ⟨#[]⟩, .int .i64 0] 25)).alloc (.cells #[.slice ao l.length cap, .bool true] 91)).alloc (.cells #[.func (.func 34) #[.pointer (some ⟨w.heap.size + 1 + 1, 0, none⟩)] #[], .func (.func 113) #[.pointer (some ⟨w.heap.size + 1 + 1, 0, none⟩)] #[], .int .i64 0] 137)) (w.heap.size + 1 + 1 + 1) (w.heap.size + 1 + 1) l 0 := ⟨m3, ⟨ao, cap, m2, hr.below hB, hnil, hlc, hcm, fun a ha => by (have := hblk a ha; omega), by omega, hb8⟩, hl⟩
  have hrd := name_rd hFd
  have h1 := ne_oneN l
  have hmay : ∀ W, Calls Tryz.prog 19 #[.agg #[.int .i64 ((nmP l 0).1.1 : Int), .string (nmP l 0).1.2.1, .int .i64 ((nmP l 0).1.2.2 : Int)]] W fun e w' => e = .returned (.bool (nameV ((nmP l 0).1.1 : Int) (nmP l 0).1.2.1 ((nmP l 0).1.2.2 : Int))) ∧ Below W.heap.size W w' := fun W => name_any ((nmP l 0).1.1 : Int) (nmP l 0).1.2.1 ((nmP l 0).1.2.2 : Int) W
  obtain ⟨PV, hPV⟩ : ∃ PV, PV = tkNV l := ⟨_, rfl⟩
  obtain ⟨E0, hE0⟩ : ∃ E0 : Int, E0 = (if tkNV l then 0 else 4) := ⟨_, rfl⟩
  obtain ⟨A0, hA0⟩ : ∃ A0, A0 = tkN0 l := ⟨_, rfl⟩
  obtain ⟨A1, hA1⟩ : ∃ A1, A1 = tkN1 l := ⟨_, rfl⟩
  obtain ⟨A2, hA2⟩ : ∃ A2, A2 = tkN2 l := ⟨_, rfl⟩
  obtain ⟨L0, hL0⟩ : ∃ L0, L0 = tkNL l := ⟨_, rfl⟩
  rw [← hE0, ← hL0, ← hA0, ← hA1, ← hA2]
  have hF : PV = false → A0 = 0 ∧ A1 = ⟨#[]⟩ ∧ A2 = 0 ∧ L0 = l ∧ E0 = 4 := fun h => by rw [h] at hPV; rw [hA0, hA1, hA2, hL0, hE0]; unfold tkN0 tkN1 tkN2 tkNL; rw [← hPV]; exact ⟨rfl, rfl, rfl, rfl, rfl⟩
  have hT : PV = true → A0 = ((nmP l 0).1.1 : Int) ∧ A1 = (nmP l 0).1.2.1 ∧ A2 = ((nmP l 0).1.2.2 : Int) ∧ L0 = (nmP l 0).2.1 ∧ E0 = 0 := fun h => by rw [h] at hPV; rw [hA0, hA1, hA2, hL0, hE0]; unfold tkN0 tkN1 tkN2 tkNL; rw [← hPV]; exact ⟨rfl, rfl, rfl, rfl, rfl⟩
  have hV : PV = (decide ((nmP l 0).2.2 = 0) && nameV ((nmP l 0).1.1 : Int) (nmP l 0).1.2.1 ((nmP l 0).1.2.2 : Int)) := hPV
  clear hPV hE0 hL0 hA0 hA1 hA2
  generalize nameV ((nmP l 0).1.1 : Int) (nmP l 0).1.2.1 ((nmP l 0).1.2.2 : Int) = VV at hmay hV
  generalize ((nmP l 0).1.1 : Int) = P0 at hrd hmay hT
  generalize (nmP l 0).1.2.1 = P1 at hrd hmay hT
  generalize ((nmP l 0).1.2.2 : Int) = P2 at hrd hmay hT
  generalize (nmP l 0).2.1 = l' at hrd hT
  generalize (nmP l 0).2.2 = E at hrd hV h1
  have HT := hide (And.intro hF hT)
  clear hF hT hr hb8 hblk hlc hcm hnil hh hl hb2 hFd
  have key : ∀ w5, Fd w5 (w.heap.size + 1 + 1 + 1) (w.heap.size + 1 + 1) l' E → Turn (w.heap.size + 1 + 1 + 1) (w.heap.size + 1 + 1) ((((w.alloc (.cells #[.int .i64 0, .string ⟨#[]⟩, .int .i64 0] 25)).alloc (.cells #[.int .i64 0, .string ⟨#[]⟩, .int .i64 0] 25)).alloc (.cells #[.slice ao l.length cap, .bool true] 91)).alloc (.cells #[.func (.func 34) #[.pointer (some ⟨w.heap.size + 1 + 1, 0, none⟩)] #[], .func (.func 113) #[.pointer (some ⟨w.heap.size + 1 + 1, 0, none⟩)] #[], .int .i64 0] 137)) w5 → (∃ ao' cap', B6 (w5.alloc (.cells #[.int .i64 P0, .string P1, .int .i64 P2] 25)) w.heap.size (w.heap.size + 1) R (w.heap.size + 1 + 1 + 1) w5.heap.size (w.heap.size + 1 + 1) (.cells #[.int .i64 0, .string ⟨#[]⟩, .int .i64 0] 25) (.cells #[.int .i64 0, .string ⟨#[]⟩, .int .i64 0] 25) (.cells #[.slice ao l.length cap, .bool true] 91) (.cells #[.func (.func 34) #[.pointer (some ⟨w.heap.size + 1 + 1, 0, none⟩)] #[], .func (.func 113) #[.pointer (some ⟨w.heap.size + 1 + 1, 0, none⟩)] #[], .int .i64 E] 137 (0, 0)) (.cells #[.int .i64 P0, .string P1, .int .i64 P2] 25) (.cells #[.slice ao' l'.length cap', .bool true] 91)) ∧ Below w.heap.size w (w5.alloc (.cells #[.int .i64 P0, .string P1, .int .i64 P2] 25)) ∧ R ≠ w5.heap.size := fun w5 hF5 t5 => by
    obtain ⟨hf5, ⟨ao', cap', hb5, _, _, _, _, _, _, _⟩, _⟩ := hF5
    have q5 := t5.size
    exact ⟨⟨ao', cap', bks6 w5 (.cells #[.int .i64 P0, .string P1, .int .i64 P2] 25) ((t5.block _ (by omega) (by omega)).trans m0) ((t5.block _ (by omega) (by omega)).trans m1) ((t5.block R (by omega) (by omega)).trans hRw) hf5 hb5⟩, (hB.trans (t5.below (by omega) (fun k hk => by omega))).alloc (by omega) _, by omega⟩
  have hRn : w.heap.size ≠ R := by omega
  clear m0 m1 m2 m3 hRw hB hs
  by_cases hE : E = 0
  · subst hE
    cases VV with
    | false =>
      have HEQ := hide (HT.out.1 (by rw [hV]; rfl))
      clear HT hV h1
      go_enter Tryz.func84, Tryz.ntmps84
      go_wp2_with (refine wpList_store_new 137 (.tmp 10) (.tmp 20) (w.heap.size + 1 + 1 + 1) 3 [.func (.func 34) #[.pointer (some ⟨w.heap.size + 1 + 1, 0, none⟩)] #[], .func (.func 113) #[.pointer (some ⟨w.heap.size + 1 + 1, 0, none⟩)] #[], .int .i64 0] rfl rfl rfl rfl rfl (by kernel_rfl) rfl rfl (by simp) (by simp [Value.oneCell']) ?_)
      go_wp2_with (go_at_call 85; refine hrd.mono ?_; rintro e w5 ⟨rfl, hF5, t5⟩; obtain ⟨⟨ao', cap', hI⟩, hO, hRv⟩ := key w5 hF5 t5; have HI := hide hI; have HO := hide hO; clear t5 hF5 hI hO; obtain ⟨a0, a1, a2, af0, af1, af2⟩ := blk3 HI.out.h0; obtain ⟨b0, b1, b2, _, _, _⟩ := blk3 HI.out.h1; obtain ⟨_, _, e2, _, _, _⟩ := blk3 HI.out.h3; obtain ⟨v0, v1, v2, _, _, _⟩ := blk3 HI.out.h4)
      go_wp2_with (go_at_call 19; refine (hmay _).mono ?_; rintro e w7 ⟨rfl, b7⟩; have HI7 := hide (HI.out.below b7); have HO7 := hide (HO.out.trans (b7.mono HO.out.size)); clear b7 a0 af0 b0 v0 a1 af1 b1 v1 a2 af2 b2 v2 e2; obtain ⟨a0, a1, a2, af0, af1, af2⟩ := blk3 HI7.out.h0; obtain ⟨b0, b1, b2, _, _, _⟩ := blk3 HI7.out.h1)
      refine ret_row_tmp w.heap.size [.int .i64 0, .string ⟨#[]⟩, .int .i64 0] rfl rfl rfl Tryz.underlying25 rfl (by kernel_rfl) (t := 25) (fr := (0, 0)) (set3 HI7.out.h0) rfl ?_
      exact ⟨by rw [(HEQ.out.1), (HEQ.out.2.1), (HEQ.out.2.2.1), (HEQ.out.2.2.2.2)] <;> rfl, ⟨ao, cap, by rw [HEQ.out.2.2.2.1, Below.heap_setCell _ _ _ _ hRn.symm, Below.heap_setCell _ _ _ _ hRn.symm, Below.heap_setCell _ _ _ _ hRn.symm]; exact HI7.out.h2⟩, (Only.ofBelow (bel3 (Nat.le_refl _) HO7.out)).mono (fun _ _ c => c.elim)⟩
    | true =>
      have HEQ := hide (HT.out.2 (by rw [hV]; rfl))
      clear HT hV h1
      go_enter Tryz.func84, Tryz.ntmps84
      go_wp2_with (refine wpList_store_new 137 (.tmp 10) (.tmp 20) (w.heap.size + 1 + 1 + 1) 3 [.func (.func 34) #[.pointer (some ⟨w.heap.size + 1 + 1, 0, none⟩)] #[], .func (.func 113) #[.pointer (some ⟨w.heap.size + 1 + 1, 0, none⟩)] #[], .int .i64 0] rfl rfl rfl rfl rfl (by kernel_rfl) rfl rfl (by simp) (by simp [Value.oneCell']) ?_)
      go_wp2_with (go_at_call 85; refine hrd.mono ?_; rintro e w5 ⟨rfl, hF5, t5⟩; obtain ⟨⟨ao', cap', hI⟩, hO, hRv⟩ := key w5 hF5 t5; have HI := hide hI; have HO := hide hO; clear t5 hF5 hI hO; obtain ⟨a0, a1, a2, af0, af1, af2⟩ := blk3 HI.out.h0; obtain ⟨b0, b1, b2, _, _, _⟩ := blk3 HI.out.h1; obtain ⟨_, _, e2, _, _, _⟩ := blk3 HI.out.h3; obtain ⟨v0, v1, v2, _, _, _⟩ := blk3 HI.out.h4)
      go_wp2_with (go_at_call 19; refine (hmay _).mono ?_; rintro e w7 ⟨rfl, b7⟩; have HI7 := hide (HI.out.below b7); have HO7 := hide (HO.out.trans (b7.mono HO.out.size)); clear b7 a0 af0 b0 v0 a1 af1 b1 v1 a2 af2 b2 v2 e2; obtain ⟨a0, a1, a2, af0, af1, af2⟩ := blk3 HI7.out.h0; obtain ⟨b0, b1, b2, _, _, _⟩ := blk3 HI7.out.h1; obtain ⟨o0, o1, _, _⟩ := blk2 HI7.out.h5; obtain ⟨p0, p1, pf0, pf1⟩ := blk2 HI7.out.h2; have HI80 := hide (bks_set (x := .slice ao' l'.length cap') (y := .bool true) HI7.out.h0 hRn); have HI84 := hide (bks_set (x := .slice ao' l'.length cap') (y := .bool true) HI7.out.h4 hRv.symm); obtain ⟨c0, c1, c2, cf0, cf1, cf2⟩ := blk3 HI80.out; obtain ⟨d0, d1, d2, _, _, _⟩ := blk3 HI84.out)
      refine ret_row_tmp w.heap.size [.int .i64 P0, .string P1, .int .i64 P2] rfl rfl rfl Tryz.underlying25 rfl (by kernel_rfl) (t := 25) (fr := (0, 0)) (set3 HI80.out) rfl ?_
      exact ⟨by rw [(HEQ.out.1), (HEQ.out.2.1), (HEQ.out.2.2.1), (HEQ.out.2.2.2.2)] <;> rfl, ⟨ao', cap', by rw [HEQ.out.2.2.2.1, Below.heap_setCell _ _ _ _ hRn.symm, Below.heap_setCell _ _ _ _ hRn.symm, Below.heap_setCell _ _ _ _ hRn.symm]; exact set2 HI7.out.h2⟩, only_news3 (Nat.le_refl _) (only_two HO7.out)⟩
  · have hE1 : (E == 1) = false := by rw [beq_eq_false_iff_ne]; exact h1
    have hE0 : (E == 0) = false := by rw [beq_eq_false_iff_ne]; exact hE
    have HEQ := hide (HT.out.1 (by rw [hV]; simp [hE]))
    clear HT hV h1 hE
    go_enter Tryz.func84, Tryz.ntmps84
    go_wp2_with (refine wpList_store_new 137 (.tmp 10) (.tmp 20) (w.heap.size + 1 + 1 + 1) 3 [.func (.func 34) #[.pointer (some ⟨w.heap.size + 1 + 1, 0, none⟩)] #[], .func (.func 113) #[.pointer (some ⟨w.heap.size + 1 + 1, 0, none⟩)] #[], .int .i64 0] rfl rfl rfl rfl rfl (by kernel_rfl) rfl rfl (by simp) (by simp [Value.oneCell']) ?_)
    go_wp2_with (go_at_call 85; refine hrd.mono ?_; rintro e w5 ⟨rfl, hF5, t5⟩; obtain ⟨⟨ao', cap', hI⟩, hO, hRv⟩ := key w5 hF5 t5; have HI := hide hI; have HO := hide hO; clear t5 hF5 hI hO; obtain ⟨a0, a1, a2, af0, af1, af2⟩ := blk3 HI.out.h0; obtain ⟨b0, b1, b2, _, _, _⟩ := blk3 HI.out.h1; obtain ⟨_, _, e2, _, _, _⟩ := blk3 HI.out.h3; obtain ⟨v0, v1, v2, _, _, _⟩ := blk3 HI.out.h4)
    refine ret_row_tmp w.heap.size [.int .i64 0, .string ⟨#[]⟩, .int .i64 0] rfl rfl rfl Tryz.underlying25 rfl (by kernel_rfl) (t := 25) (fr := (0, 0)) (set3 HI.out.h0) rfl ?_
    exact ⟨by rw [(HEQ.out.1), (HEQ.out.2.1), (HEQ.out.2.2.1), (HEQ.out.2.2.2.2)] <;> rfl, ⟨ao, cap, by rw [HEQ.out.2.2.2.1, Below.heap_setCell _ _ _ _ hRn.symm, Below.heap_setCell _ _ _ _ hRn.symm, Below.heap_setCell _ _ _ _ hRn.symm]; exact HI.out.h2⟩, (Only.ofBelow (bel3 (Nat.le_refl _) HO.out)).mono (fun _ _ c => c.elim)⟩
set_option maxHeartbeats 2000000 in
set_option maxRecDepth 100000 in
theorem takeN_any (R S : Nat) (l : List Int) (w : World) (hR : Rdr 91 w R S l) (hS : S ≤ w.heap.size) (hl : l.length ≤ 140737488355328) : Calls Tryz.prog 37 #[.pointer (some ⟨R, 0, none⟩)] w fun e w' => e = .returned (.tuple #[.agg #[.int .i64 (tkN0 l), .string (tkN1 l), .int .i64 (tkN2 l)], .int .i64 (if tkNV l then 0 else 4)]) ∧ RdL w' R (tkNL l) ∧ Only (fun j => j = R) w w' := by
  have hn := heap_alloc_new w (.cells #[.int .i64 0, .string ⟨#[]⟩, .int .i64 0] 25)
  have hRl : R < w.heap.size := by obtain ⟨_, _, h, _⟩ := hR; exact (Array.getElem?_eq_some_iff.1 h).1
  have hRn : w.heap.size ≠ R := by omega
  have h87 := takenN_any R S l (w.alloc (.cells #[.int .i64 0, .string ⟨#[]⟩, .int .i64 0] 25)) (hR.kept (World.grownBy_alloc w (.cells #[.int .i64 0, .string ⟨#[]⟩, .int .i64 0] 25) none) (by simp)) (by simp; omega) hl
  generalize (if tkNV l then (0 : Int) else 4) = E0 at h87 ⊢
  generalize tkNL l = L0 at h87 ⊢
  generalize tkN0 l = A0 at h87 ⊢
  generalize tkN1 l = A1 at h87 ⊢
  generalize tkN2 l = A2 at h87 ⊢
  go_enter Tryz.func37, Tryz.ntmps37
  go_wp2_with (go_at_call 84; refine h87.mono ?_; rintro e w1 ⟨rfl, hL1, o1⟩; have HN := hide ((o1.block w.heap.size (by simp) (by omega)).trans hn); have HO := hide ((Only.ofBelow (below_new w (.cells #[.int .i64 0, .string ⟨#[]⟩, .int .i64 0] 25))).mono (fun _ _ c => c.elim) |>.trans' o1); have HL := hide hL1; obtain ⟨y0, y1, y2, f0, f1, f2⟩ := blk3 HN.out; clear o1 hL1)
  refine ret_row_tmp w.heap.size [.int .i64 A0, .string A1, .int .i64 A2] rfl rfl rfl Tryz.underlying25 rfl (by kernel_rfl) (t := 25) (fr := (0, 0)) (set3 HN.out) rfl ?_
  obtain ⟨ao, cap, hL⟩ := HL.out
  exact ⟨rfl, ⟨ao, cap, by rw [Below.heap_setCell _ _ _ _ hRn.symm, Below.heap_setCell _ _ _ _ hRn.symm, Below.heap_setCell _ _ _ _ hRn.symm]; exact hL⟩, only_news3 (Nat.le_refl _) HO.out⟩
end Go.Proofs.YtkjabnpniingnaaGreatDoor
