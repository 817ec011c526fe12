/-
  TAKEN6: TakeBranch, TakeName, Take of the program.
-/
import Derived.Test.YtkjabnpniingnaaGreatDoorFlds6
namespace Go.Proofs.YtkjabnpniingnaaGreatDoor
open Go.RowKit Go.Shelf
set_option linter.unusedSimpArgs false

/-- A reader that has the bytes l left. -/
def RdL (w : World) (R : Nat) (l : List Int) : Prop := ∃ ao cap, w.heap[R]? = some (.cells #[.slice ao l.length cap, .bool true] 91 (0, 0))
structure B6 (wd : World) (p0 p1 p2 p3 p4 p5 : Nat) (o0 o1 o2 o3 o4 o5 : Obj) : Prop where
  h0 : wd.heap[p0]? = some o0
  h1 : wd.heap[p1]? = some o1
  h2 : wd.heap[p2]? = some o2
  h3 : wd.heap[p3]? = some o3
  h4 : wd.heap[p4]? = some o4
  h5 : wd.heap[p5]? = some o5
theorem B6.below {wd w' : World} {p0 p1 p2 p3 p4 p5 : Nat} {o0 o1 o2 o3 o4 o5 : Obj} (h : B6 wd p0 p1 p2 p3 p4 p5 o0 o1 o2 o3 o4 o5) (hb : Below wd.heap.size wd w') : B6 w' p0 p1 p2 p3 p4 p5 o0 o1 o2 o3 o4 o5 := by
  have old : ∀ {q : Nat} {x : Obj}, wd.heap[q]? = some x → w'.heap[q]? = some x := fun h => (hb.block _ (Array.getElem?_eq_some_iff.1 h).1).trans h
  exact ⟨old h.h0, old h.h1, old h.h2, old h.h3, old h.h4, old h.h5⟩
theorem bks6 (w : World) (o : Obj) {p0 p1 p2 p3 p5 : Nat} {o0 o1 o2 o3 o5 : Obj} (h0 : w.heap[p0]? = some o0) (h1 : w.heap[p1]? = some o1) (h2 : w.heap[p2]? = some o2) (h3 : w.heap[p3]? = some o3) (h5 : w.heap[p5]? = some o5) : B6 (w.alloc o) p0 p1 p2 p3 w.heap.size p5 o0 o1 o2 o3 o o5 := by
  have old : ∀ {q : Nat} {x : Obj}, w.heap[q]? = some x → (w.alloc o).heap[q]? = some x := fun h => (Below.heap_alloc w o _ (Array.getElem?_eq_some_iff.1 h).1).trans h
  exact ⟨old h0, old h1, old h2, old h3, heap_alloc_new w o, old h5⟩
theorem bks_set {w : World} {R p : Nat} {o : Obj} {x y : Value} (h : w.heap[p]? = some o) (n : p ≠ R) : ((w.setCell ⟨R, 0, none⟩ x).setCell ⟨R, 1, none⟩ y).heap[p]? = some o := by
  rw [Below.heap_setCell _ _ _ _ n, Below.heap_setCell _ _ _ _ n]; exact h
theorem only_two {w w7 : World} {R : Nat} {x y : Value} (h : Below w.heap.size w w7) : Only (fun j => j = R) w ((w7.setCell ⟨R, 0, none⟩ x).setCell ⟨R, 1, none⟩ y) :=
  have h0 : Only (fun j => j = R) w w7 := (Only.ofBelow h).mono (fun _ _ c => c.elim)
  (h0.setCell ⟨R, 0, none⟩ x (fun _ => rfl)).setCell ⟨R, 1, none⟩ y (fun _ => rfl)
theorem only_new1 {w w' : World} {R k j : Nat} {x : Value} (hk : w.heap.size ≤ k) (h : Only (fun j => j = R) w w') : Only (fun j => j = R) w (w'.setCell ⟨k, j, none⟩ x) := h.setCell _ _ (fun q => by (simp at q; omega))
theorem only_news2 {w w' : World} {R k : Nat} {x y : Value} (hk : w.heap.size ≤ k) (h : Only (fun j => j = R) w w') : Only (fun j => j = R) w ((w'.setCell ⟨k, 0, none⟩ x).setCell ⟨k, 1, none⟩ y) := only_new1 hk (only_new1 hk h)
theorem only_news3 {w w' : World} {R k : Nat} {x y z : Value} (hk : w.heap.size ≤ k) (h : Only (fun j => j = R) w w') : Only (fun j => j = R) w (((w'.setCell ⟨k, 0, none⟩ x).setCell ⟨k, 1, none⟩ y).setCell ⟨k, 2, none⟩ z) := only_new1 hk (only_news2 hk h)
theorem only_news5 {w w' : World} {R k : Nat} {x y z u v : Value} (hk : w.heap.size ≤ k) (h : Only (fun j => j = R) w w') : Only (fun j => j = R) w (((((w'.setCell ⟨k, 0, none⟩ x).setCell ⟨k, 1, none⟩ y).setCell ⟨k, 2, none⟩ z).setCell ⟨k, 3, none⟩ u).setCell ⟨k, 4, none⟩ v) := only_new1 hk (only_new1 hk (only_news3 hk h))
theorem left_rdl (R : Nat) (l : List Int) (w : World) (h : RdL w R l) : Calls Tryz.prog 32 #[.pointer (some ⟨R, 0, none⟩)] w fun e w' => e = .returned (.int .i64 l.length) ∧ w' = w := by
  obtain ⟨ao, cap, hh⟩ := h
  obtain ⟨c0, c1, _, _⟩ := blk2 hh
  have h80 := missing_no R w c1
  go_enter Tryz.func32, Tryz.ntmps32
  go_wp2_with (go_at_call 80; refine h80.mono ?_; rintro e w1 ⟨rfl, rfl⟩)
  go_ret
  exact ⟨rfl, rfl⟩
theorem ne_up {m : Nat} {l : List Int} {e : Int} (h : e ≠ 1) : (upP m l e).2.2 ≠ 1 := by
  unfold upP
  split
  · exact h
  · split
    · show (4 : Int) ≠ 1; decide
    · unfold rnum
      cases Plain.readN 0 0 l with
      | none => show (4 : Int) ≠ 1; decide
      | some p => show (0 : Int) ≠ 1; decide
theorem ne_lb {l : List Int} {e : Int} (h : e ≠ 1) : (lbP l e).2.2 ≠ 1 := by
  unfold lbP
  split
  · exact h
  · show (rbytes 12 l).2.1 ≠ 1
    unfold rbytes
    split
    · split
      · show (4 : Int) ≠ 1; decide
      · show (0 : Int) ≠ 1; decide
    · show (rcount 12 l).2.1 ≠ 1
      unfold rcount
      rw [if_neg (by decide)]
      cases Plain.readN 0 0 l with
      | none => show (4 : Int) ≠ 1; decide
      | some p =>
        obtain ⟨n, k⟩ := p
        dsimp only
        split
        · show (3 : Int) ≠ 1; decide
        · show (0 : Int) ≠ 1; decide
theorem ne_oneB (l : List Int) : (brP l 0).2.2 ≠ 1 := ne_lb (ne_up (by decide))
theorem ne_brP {l : List Int} {e : Int} (h : e ≠ 1) : (brP l e).2.2 ≠ 1 := ne_lb (ne_up h)
theorem ne_oneN (l : List Int) : (nmP l 0).2.2 ≠ 1 := ne_up (ne_brP (by decide))
theorem ne_oneS (l : List Int) : (stP l 0).2.2 ≠ 1 := ne_up (ne_up (ne_brP (ne_up (by decide))))
/-- Whether a stamp's form stands before the bytes. -/
def tkSV (l : List Int) : Bool := decide ((stP l 0).2.2 = 0) && stampV ((stP l 0).1.1 : Int) ((stP l 0).1.2.1 : Int) (stP l 0).1.2.2.1 ((stP l 0).1.2.2.2.1 : Int) ((stP l 0).1.2.2.2.2 : Int)
def tkS0 (l : List Int) : Int := if tkSV l then ((stP l 0).1.1 : Int) else 0
def tkS1 (l : List Int) : Int := if tkSV l then ((stP l 0).1.2.1 : Int) else 0
def tkS2 (l : List Int) : ByteArray := if tkSV l then (stP l 0).1.2.2.1 else ⟨#[]⟩
def tkS3 (l : List Int) : Int := if tkSV l then ((stP l 0).1.2.2.2.1 : Int) else 0
def tkS4 (l : List Int) : Int := if tkSV l then ((stP l 0).1.2.2.2.2 : Int) else 0
def tkSL (l : List Int) : List Int := if tkSV l then (stP l 0).2.1 else l
set_option maxHeartbeats 4000000 in
set_option maxRecDepth 100000 in
theorem takenS_any (R S : Nat) (l : List Int) (w : World) (hR : Rdr 91 w R S l) (hS : S ≤ w.heap.size) (hl : l.length ≤ 140737488355328) : Calls Tryz.prog 87 #[.pointer (some ⟨R, 0, none⟩), .func (.func 88) #[] #[], .func (.func 17) #[] #[]] w fun e w' => e = .returned (.tuple #[.agg #[.int .i64 (tkS0 l), .int .i64 (tkS1 l), .string (tkS2 l), .int .i64 (tkS3 l), .int .i64 (tkS4 l)], .int .i64 (if tkSV l then 0 else 4)]) ∧ RdL w' R (tkSL l) ∧ Only (fun j => j = R) w w' := by
  obtain ⟨ao, cap, hh, hr, hnil, hlc, hcm, hblk, hRS, hb8⟩ := hR
  obtain ⟨m0, m1, m2, m3, hB, hs⟩ := new4 w (.cells #[.int .i64 0, .int .i64 0, .string ⟨#[]⟩, .int .i64 0, .int .i64 0] 27) (.cells #[.int .i64 0, .int .i64 0, .string ⟨#[]⟩, .int .i64 0, .int .i64 0] 27) (.cells #[.slice ao l.length cap, .bool true] 91) (.cells #[.func (.func 34) #[.pointer (some ⟨w.heap.size + 1 + 1, 0, none⟩)] #[], .func (.func 113) #[.pointer (some ⟨w.heap.size + 1 + 1, 0, none⟩)] #[], .int .i64 0] 137)
  have hRl : R < w.heap.size := by omega
  have hb2 : Below w.heap.size w ((w.alloc (.cells #[.int .i64 0, .int .i64 0, .string ⟨#[]⟩, .int .i64 0, .int .i64 0] 27)).alloc (.cells #[.int .i64 0, .int .i64 0, .string ⟨#[]⟩, .int .i64 0, .int .i64 0] 27)) := ((Below.refl _ w).alloc (Nat.le_refl _) _).alloc (by simp) _
  obtain ⟨r0, r1, _, _⟩ := blk2 ((hb2.block _ hRl).trans hh)
  have hRw := (hB.block R hRl).trans hh
  have hFd : Fd ((((w.alloc (.cells #[.int .i64 0, .int .i64 0, .string ⟨#[]⟩, .int .i64 0, .int .i64 0] 27)).alloc (.cells #[.int .i64 0, .int .i64 0, .string ⟨#[]⟩, .int .i64 0, .int .i64 0] 27)).alloc (.cells #[.slice ao l.length cap, .bool true] 91)).alloc (.cells #[.func (.func 34) #[.pointer (some ⟨w.heap.size + 1 + 1, 0, none⟩)] #[], .func (.func 113) #[.pointer (some ⟨w.heap.size + 1 + 1, 0, none⟩)] #[], .int .i64 0] 137)) (w.heap.size + 1 + 1 + 1) (w.heap.size + 1 + 1) l 0 := ⟨m3, ⟨ao, cap, m2, hr.below hB, hnil, hlc, hcm, fun a ha => by (have := hblk a ha; omega), by omega, hb8⟩, hl⟩
  have hrd := stamp_rd hFd
  have h1 := ne_oneS l
  have hmay : ∀ W, Calls Tryz.prog 17 #[.agg #[.int .i64 ((stP l 0).1.1 : Int), .int .i64 ((stP l 0).1.2.1 : Int), .string (stP l 0).1.2.2.1, .int .i64 ((stP l 0).1.2.2.2.1 : Int), .int .i64 ((stP l 0).1.2.2.2.2 : Int)]] W fun e w' => e = .returned (.bool (stampV ((stP l 0).1.1 : Int) ((stP l 0).1.2.1 : Int) (stP l 0).1.2.2.1 ((stP l 0).1.2.2.2.1 : Int) ((stP l 0).1.2.2.2.2 : Int))) ∧ Below W.heap.size W w' := fun W => stamp_any ((stP l 0).1.1 : Int) ((stP l 0).1.2.1 : Int) (stP l 0).1.2.2.1 ((stP l 0).1.2.2.2.1 : Int) ((stP l 0).1.2.2.2.2 : Int) W
  obtain ⟨PV, hPV⟩ : ∃ PV, PV = tkSV l := ⟨_, rfl⟩
  obtain ⟨E0, hE0⟩ : ∃ E0 : Int, E0 = (if tkSV l then 0 else 4) := ⟨_, rfl⟩
  obtain ⟨A0, hA0⟩ : ∃ A0, A0 = tkS0 l := ⟨_, rfl⟩
  obtain ⟨A1, hA1⟩ : ∃ A1, A1 = tkS1 l := ⟨_, rfl⟩
  obtain ⟨A2, hA2⟩ : ∃ A2, A2 = tkS2 l := ⟨_, rfl⟩
  obtain ⟨A3, hA3⟩ : ∃ A3, A3 = tkS3 l := ⟨_, rfl⟩
  obtain ⟨A4, hA4⟩ : ∃ A4, A4 = tkS4 l := ⟨_, rfl⟩
  obtain ⟨L0, hL0⟩ : ∃ L0, L0 = tkSL l := ⟨_, rfl⟩
  rw [← hE0, ← hL0, ← hA0, ← hA1, ← hA2, ← hA3, ← hA4]
  have hF : PV = false → A0 = 0 ∧ A1 = 0 ∧ A2 = ⟨#[]⟩ ∧ A3 = 0 ∧ A4 = 0 ∧ L0 = l ∧ E0 = 4 := fun h => by rw [h] at hPV; rw [hA0, hA1, hA2, hA3, hA4, hL0, hE0]; unfold tkS0 tkS1 tkS2 tkS3 tkS4 tkSL; rw [← hPV]; exact ⟨rfl, rfl, rfl, rfl, rfl, rfl, rfl⟩
  have hT : PV = true → A0 = ((stP l 0).1.1 : Int) ∧ A1 = ((stP l 0).1.2.1 : Int) ∧ A2 = (stP l 0).1.2.2.1 ∧ A3 = ((stP l 0).1.2.2.2.1 : Int) ∧ A4 = ((stP l 0).1.2.2.2.2 : Int) ∧ L0 = (stP l 0).2.1 ∧ E0 = 0 := fun h => by rw [h] at hPV; rw [hA0, hA1, hA2, hA3, hA4, hL0, hE0]; unfold tkS0 tkS1 tkS2 tkS3 tkS4 tkSL; rw [← hPV]; exact ⟨rfl, rfl, rfl, rfl, rfl, rfl, rfl⟩
  have hV : PV = (decide ((stP l 0).2.2 = 0) && stampV ((stP l 0).1.1 : Int) ((stP l 0).1.2.1 : Int) (stP l 0).1.2.2.1 ((stP l 0).1.2.2.2.1 : Int) ((stP l 0).1.2.2.2.2 : Int)) := hPV
  clear hPV hE0 hL0 hA0 hA1 hA2 hA3 hA4
  generalize stampV ((stP l 0).1.1 : Int) ((stP l 0).1.2.1 : Int) (stP l 0).1.2.2.1 ((stP l 0).1.2.2.2.1 : Int) ((stP l 0).1.2.2.2.2 : Int) = VV at hmay hV
  generalize ((stP l 0).1.1 : Int) = P0 at hrd hmay hT
  generalize ((stP l 0).1.2.1 : Int) = P1 at hrd hmay hT
  generalize (stP l 0).1.2.2.1 = P2 at hrd hmay hT
  generalize ((stP l 0).1.2.2.2.1 : Int) = P3 at hrd hmay hT
  generalize ((stP l 0).1.2.2.2.2 : Int) = P4 at hrd hmay hT
  generalize (stP l 0).2.1 = l' at hrd hT
  generalize (stP l 0).2.2 = E at hrd hV h1
  have HT := hide (And.intro hF hT)
  clear hF hT hr hb8 hblk hlc hcm hnil hh hl hb2 hFd
  have key : ∀ w5, Fd w5 (w.heap.size + 1 + 1 + 1) (w.heap.size + 1 + 1) l' E → Turn (w.heap.size + 1 + 1 + 1) (w.heap.size + 1 + 1) ((((w.alloc (.cells #[.int .i64 0, .int .i64 0, .string ⟨#[]⟩, .int .i64 0, .int .i64 0] 27)).alloc (.cells #[.int .i64 0, .int .i64 0, .string ⟨#[]⟩, .int .i64 0, .int .i64 0] 27)).alloc (.cells #[.slice ao l.length cap, .bool true] 91)).alloc (.cells #[.func (.func 34) #[.pointer (some ⟨w.heap.size + 1 + 1, 0, none⟩)] #[], .func (.func 113) #[.pointer (some ⟨w.heap.size + 1 + 1, 0, none⟩)] #[], .int .i64 0] 137)) w5 → (∃ ao' cap', B6 (w5.alloc (.cells #[.int .i64 P0, .int .i64 P1, .string P2, .int .i64 P3, .int .i64 P4] 27)) w.heap.size (w.heap.size + 1) R (w.heap.size + 1 + 1 + 1) w5.heap.size (w.heap.size + 1 + 1) (.cells #[.int .i64 0, .int .i64 0, .string ⟨#[]⟩, .int .i64 0, .int .i64 0] 27) (.cells #[.int .i64 0, .int .i64 0, .string ⟨#[]⟩, .int .i64 0, .int .i64 0] 27) (.cells #[.slice ao l.length cap, .bool true] 91) (.cells #[.func (.func 34) #[.pointer (some ⟨w.heap.size + 1 + 1, 0, none⟩)] #[], .func (.func 113) #[.pointer (some ⟨w.heap.size + 1 + 1, 0, none⟩)] #[], .int .i64 E] 137 (0, 0)) (.cells #[.int .i64 P0, .int .i64 P1, .string P2, .int .i64 P3, .int .i64 P4] 27) (.cells #[.slice ao' l'.length cap', .bool true] 91)) ∧ Below w.heap.size w (w5.alloc (.cells #[.int .i64 P0, .int .i64 P1, .string P2, .int .i64 P3, .int .i64 P4] 27)) ∧ R ≠ w5.heap.size := fun w5 hF5 t5 => by
    obtain ⟨hf5, ⟨ao', cap', hb5, _, _, _, _, _, _, _⟩, _⟩ := hF5
    have q5 := t5.size
    exact ⟨⟨ao', cap', bks6 w5 (.cells #[.int .i64 P0, .int .i64 P1, .string P2, .int .i64 P3, .int .i64 P4] 27) ((t5.block _ (by omega) (by omega)).trans m0) ((t5.block _ (by omega) (by omega)).trans m1) ((t5.block R (by omega) (by omega)).trans hRw) hf5 hb5⟩, (hB.trans (t5.below (by omega) (fun k hk => by omega))).alloc (by omega) _, by omega⟩
  have hRn : w.heap.size ≠ R := by omega
  clear m0 m1 m2 m3 hRw hB hs
  by_cases hE : E = 0
  · subst hE
    cases VV with
    | false =>
      have HEQ := hide (HT.out.1 (by rw [hV]; rfl))
      clear HT hV h1
      go_enter Tryz.func87, Tryz.ntmps87
      go_wp2_with (refine wpList_store_new 137 (.tmp 10) (.tmp 20) (w.heap.size + 1 + 1 + 1) 3 [.func (.func 34) #[.pointer (some ⟨w.heap.size + 1 + 1, 0, none⟩)] #[], .func (.func 113) #[.pointer (some ⟨w.heap.size + 1 + 1, 0, none⟩)] #[], .int .i64 0] rfl rfl rfl rfl rfl (by kernel_rfl) rfl rfl (by simp) (by simp [Value.oneCell']) ?_)
      go_wp2_with (go_at_call 88; refine hrd.mono ?_; rintro e w5 ⟨rfl, hF5, t5⟩; obtain ⟨⟨ao', cap', hI⟩, hO, hRv⟩ := key w5 hF5 t5; have HI := hide hI; have HO := hide hO; clear t5 hF5 hI hO; obtain ⟨a0, a1, a2, a3, a4, af0, af1, af2, af3, af4⟩ := blk5 HI.out.h0; obtain ⟨b0, b1, b2, b3, b4, _, _, _, _, _⟩ := blk5 HI.out.h1; obtain ⟨_, _, e2, _, _, _⟩ := blk3 HI.out.h3; obtain ⟨v0, v1, v2, v3, v4, _, _, _, _, _⟩ := blk5 HI.out.h4)
      go_wp2_with (go_at_call 17; refine (hmay _).mono ?_; rintro e w7 ⟨rfl, b7⟩; have HI7 := hide (HI.out.below b7); have HO7 := hide (HO.out.trans (b7.mono HO.out.size)); clear b7 a0 af0 b0 v0 a1 af1 b1 v1 a2 af2 b2 v2 a3 af3 b3 v3 a4 af4 b4 v4 e2; obtain ⟨a0, a1, a2, a3, a4, af0, af1, af2, af3, af4⟩ := blk5 HI7.out.h0; obtain ⟨b0, b1, b2, b3, b4, _, _, _, _, _⟩ := blk5 HI7.out.h1)
      refine ret_row_tmp w.heap.size [.int .i64 0, .int .i64 0, .string ⟨#[]⟩, .int .i64 0, .int .i64 0] rfl rfl rfl Tryz.underlying27 rfl (by kernel_rfl) (t := 27) (fr := (0, 0)) (set5 HI7.out.h0) rfl ?_
      exact ⟨by rw [(HEQ.out.1), (HEQ.out.2.1), (HEQ.out.2.2.1), (HEQ.out.2.2.2.1), (HEQ.out.2.2.2.2.1), (HEQ.out.2.2.2.2.2.2)] <;> rfl, ⟨ao, cap, by rw [HEQ.out.2.2.2.2.2.1, Below.heap_setCell _ _ _ _ hRn.symm, Below.heap_setCell _ _ _ _ hRn.symm, Below.heap_setCell _ _ _ _ hRn.symm, Below.heap_setCell _ _ _ _ hRn.symm, Below.heap_setCell _ _ _ _ hRn.symm]; exact HI7.out.h2⟩, (Only.ofBelow (bel5 (Nat.le_refl _) HO7.out)).mono (fun _ _ c => c.elim)⟩
    | true =>
      have HEQ := hide (HT.out.2 (by rw [hV]; rfl))
      clear HT hV h1
      go_enter Tryz.func87, Tryz.ntmps87
      go_wp2_with (refine wpList_store_new 137 (.tmp 10) (.tmp 20) (w.heap.size + 1 + 1 + 1) 3 [.func (.func 34) #[.pointer (some ⟨w.heap.size + 1 + 1, 0, none⟩)] #[], .func (.func 113) #[.pointer (some ⟨w.heap.size + 1 + 1, 0, none⟩)] #[], .int .i64 0] rfl rfl rfl rfl rfl (by kernel_rfl) rfl rfl (by simp) (by simp [Value.oneCell']) ?_)
      go_wp2_with (go_at_call 88; refine hrd.mono ?_; rintro e w5 ⟨rfl, hF5, t5⟩; obtain ⟨⟨ao', cap', hI⟩, hO, hRv⟩ := key w5 hF5 t5; have HI := hide hI; have HO := hide hO; clear t5 hF5 hI hO; obtain ⟨a0, a1, a2, a3, a4, af0, af1, af2, af3, af4⟩ := blk5 HI.out.h0; obtain ⟨b0, b1, b2, b3, b4, _, _, _, _, _⟩ := blk5 HI.out.h1; obtain ⟨_, _, e2, _, _, _⟩ := blk3 HI.out.h3; obtain ⟨v0, v1, v2, v3, v4, _, _, _, _, _⟩ := blk5 HI.out.h4)
      go_wp2_with (go_at_call 17; refine (hmay _).mono ?_; rintro e w7 ⟨rfl, b7⟩; have HI7 := hide (HI.out.below b7); have HO7 := hide (HO.out.trans (b7.mono HO.out.size)); clear b7 a0 af0 b0 v0 a1 af1 b1 v1 a2 af2 b2 v2 a3 af3 b3 v3 a4 af4 b4 v4 e2; obtain ⟨a0, a1, a2, a3, a4, af0, af1, af2, af3, af4⟩ := blk5 HI7.out.h0; obtain ⟨b0, b1, b2, b3, b4, _, _, _, _, _⟩ := blk5 HI7.out.h1; obtain ⟨o0, o1, _, _⟩ := blk2 HI7.out.h5; obtain ⟨p0, p1, pf0, pf1⟩ := blk2 HI7.out.h2; have HI80 := hide (bks_set (x := .slice ao' l'.length cap') (y := .bool true) HI7.out.h0 hRn); have HI84 := hide (bks_set (x := .slice ao' l'.length cap') (y := .bool true) HI7.out.h4 hRv.symm); obtain ⟨c0, c1, c2, c3, c4, cf0, cf1, cf2, cf3, cf4⟩ := blk5 HI80.out; obtain ⟨d0, d1, d2, d3, d4, _, _, _, _, _⟩ := blk5 HI84.out)
      refine ret_row_tmp w.heap.size [.int .i64 P0, .int .i64 P1, .string P2, .int .i64 P3, .int .i64 P4] rfl rfl rfl Tryz.underlying27 rfl (by kernel_rfl) (t := 27) (fr := (0, 0)) (set5 HI80.out) rfl ?_
      exact ⟨by rw [(HEQ.out.1), (HEQ.out.2.1), (HEQ.out.2.2.1), (HEQ.out.2.2.2.1), (HEQ.out.2.2.2.2.1), (HEQ.out.2.2.2.2.2.2)] <;> rfl, ⟨ao', cap', by rw [HEQ.out.2.2.2.2.2.1, Below.heap_setCell _ _ _ _ hRn.symm, Below.heap_setCell _ _ _ _ hRn.symm, Below.heap_setCell _ _ _ _ hRn.symm, Below.heap_setCell _ _ _ _ hRn.symm, Below.heap_setCell _ _ _ _ hRn.symm]; exact set2 HI7.out.h2⟩, only_news5 (Nat.le_refl _) (only_two HO7.out)⟩
  · have hE1 : (E == 1) = false := by rw [beq_eq_false_iff_ne]; exact h1
    have hE0 : (E == 0) = false := by rw [beq_eq_false_iff_ne]; exact hE
    have HEQ := hide (HT.out.1 (by rw [hV]; simp [hE]))
    clear HT hV h1 hE
    go_enter Tryz.func87, Tryz.ntmps87
    go_wp2_with (refine wpList_store_new 137 (.tmp 10) (.tmp 20) (w.heap.size + 1 + 1 + 1) 3 [.func (.func 34) #[.pointer (some ⟨w.heap.size + 1 + 1, 0, none⟩)] #[], .func (.func 113) #[.pointer (some ⟨w.heap.size + 1 + 1, 0, none⟩)] #[], .int .i64 0] rfl rfl rfl rfl rfl (by kernel_rfl) rfl rfl (by simp) (by simp [Value.oneCell']) ?_)
    go_wp2_with (go_at_call 88; refine hrd.mono ?_; rintro e w5 ⟨rfl, hF5, t5⟩; obtain ⟨⟨ao', cap', hI⟩, hO, hRv⟩ := key w5 hF5 t5; have HI := hide hI; have HO := hide hO; clear t5 hF5 hI hO; obtain ⟨a0, a1, a2, a3, a4, af0, af1, af2, af3, af4⟩ := blk5 HI.out.h0; obtain ⟨b0, b1, b2, b3, b4, _, _, _, _, _⟩ := blk5 HI.out.h1; obtain ⟨_, _, e2, _, _, _⟩ := blk3 HI.out.h3; obtain ⟨v0, v1, v2, v3, v4, _, _, _, _, _⟩ := blk5 HI.out.h4)
    refine ret_row_tmp w.heap.size [.int .i64 0, .int .i64 0, .string ⟨#[]⟩, .int .i64 0, .int .i64 0] rfl rfl rfl Tryz.underlying27 rfl (by kernel_rfl) (t := 27) (fr := (0, 0)) (set5 HI.out.h0) rfl ?_
    exact ⟨by rw [(HEQ.out.1), (HEQ.out.2.1), (HEQ.out.2.2.1), (HEQ.out.2.2.2.1), (HEQ.out.2.2.2.2.1), (HEQ.out.2.2.2.2.2.2)] <;> rfl, ⟨ao, cap, by rw [HEQ.out.2.2.2.2.2.1, Below.heap_setCell _ _ _ _ hRn.symm, Below.heap_setCell _ _ _ _ hRn.symm, Below.heap_setCell _ _ _ _ hRn.symm, Below.heap_setCell _ _ _ _ hRn.symm, Below.heap_setCell _ _ _ _ hRn.symm]; exact HI.out.h2⟩, (Only.ofBelow (bel5 (Nat.le_refl _) HO.out)).mono (fun _ _ c => c.elim)⟩
set_option maxHeartbeats 2000000 in
set_option maxRecDepth 100000 in
theorem takeS_any (R S : Nat) (l : List Int) (w : World) (hR : Rdr 91 w R S l) (hS : S ≤ w.heap.size) (hl : l.length ≤ 140737488355328) : Calls Tryz.prog 39 #[.pointer (some ⟨R, 0, none⟩)] w fun e w' => e = .returned (.tuple #[.agg #[.int .i64 (tkS0 l), .int .i64 (tkS1 l), .string (tkS2 l), .int .i64 (tkS3 l), .int .i64 (tkS4 l)], .int .i64 (if tkSV l then 0 else 4)]) ∧ RdL w' R (tkSL l) ∧ Only (fun j => j = R) w w' := by
  have hn := heap_alloc_new w (.cells #[.int .i64 0, .int .i64 0, .string ⟨#[]⟩, .int .i64 0, .int .i64 0] 27)
  have hRl : R < w.heap.size := by obtain ⟨_, _, h, _⟩ := hR; exact (Array.getElem?_eq_some_iff.1 h).1
  have hRn : w.heap.size ≠ R := by omega
  have h87 := takenS_any R S l (w.alloc (.cells #[.int .i64 0, .int .i64 0, .string ⟨#[]⟩, .int .i64 0, .int .i64 0] 27)) (hR.kept (World.grownBy_alloc w (.cells #[.int .i64 0, .int .i64 0, .string ⟨#[]⟩, .int .i64 0, .int .i64 0] 27) none) (by simp)) (by simp; omega) hl
  generalize (if tkSV l then (0 : Int) else 4) = E0 at h87 ⊢
  generalize tkSL l = L0 at h87 ⊢
  generalize tkS0 l = A0 at h87 ⊢
  generalize tkS1 l = A1 at h87 ⊢
  generalize tkS2 l = A2 at h87 ⊢
  generalize tkS3 l = A3 at h87 ⊢
  generalize tkS4 l = A4 at h87 ⊢
  go_enter Tryz.func39, Tryz.ntmps39
  go_wp2_with (go_at_call 87; refine h87.mono ?_; rintro e w1 ⟨rfl, hL1, o1⟩; have HN := hide ((o1.block w.heap.size (by simp) (by omega)).trans hn); have HO := hide ((Only.ofBelow (below_new w (.cells #[.int .i64 0, .int .i64 0, .string ⟨#[]⟩, .int .i64 0, .int .i64 0] 27))).mono (fun _ _ c => c.elim) |>.trans' o1); have HL := hide hL1; obtain ⟨y0, y1, y2, y3, y4, f0, f1, f2, f3, f4⟩ := blk5 HN.out; clear o1 hL1)
  refine ret_row_tmp w.heap.size [.int .i64 A0, .int .i64 A1, .string A2, .int .i64 A3, .int .i64 A4] rfl rfl rfl Tryz.underlying27 rfl (by kernel_rfl) (t := 27) (fr := (0, 0)) (set5 HN.out) rfl ?_
  obtain ⟨ao, cap, hL⟩ := HL.out
  exact ⟨rfl, ⟨ao, cap, by rw [Below.heap_setCell _ _ _ _ hRn.symm, Below.heap_setCell _ _ _ _ hRn.symm, Below.heap_setCell _ _ _ _ hRn.symm, Below.heap_setCell _ _ _ _ hRn.symm, Below.heap_setCell _ _ _ _ hRn.symm]; exact hL⟩, only_news5 (Nat.le_refl _) HO.out⟩
end Go.Proofs.YtkjabnpniingnaaGreatDoor
