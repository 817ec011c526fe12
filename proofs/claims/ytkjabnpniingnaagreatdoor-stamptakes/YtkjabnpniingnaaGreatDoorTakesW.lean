/-
  TAKESW: StampTakes' walk.
-/
import Derived.Test.YtkjabnpniingnaaGreatDoorDocTN
import Derived.Test.YtkjabnpniingnaaGreatDoorDocTS
import Derived.Test.YtkjabnpniingnaaGreatDoorEqs6
import Derived.BigCall
import Derived.BigGuard
import Derived.BigGuardPart
import Derived.BigRegion
namespace Go.Proofs.YtkjabnpniingnaaGreatDoor
open Go.RowKit Go.Shelf
set_option linter.unusedSimpArgs false

theorem rflag_suf (l : List Int) : (rflag l).2.2 <:+ l := by
  cases l with
  | nil => exact List.suffix_refl _
  | cons b r =>
    by_cases h : 1 < b
    · have e : (rflag (b :: r)).2.2 = b :: r := by simp [rflag, h]
      rw [e]; exact List.suffix_refl _
    · have e : (rflag (b :: r)).2.2 = r := by simp [rflag, h]
      rw [e]; exact List.suffix_cons b r
theorem rnum_suf (l : List Int) : (rnum l).2.2 <:+ l := by
  unfold rnum
  cases Plain.readN 0 0 l with
  | none => exact List.suffix_refl _
  | some p => exact List.drop_suffix _ _
theorem grown_of_only {w w' : World} {R : Nat} (h : Only (fun j => j = R) w w') : w.grownBy w' (some R) := ⟨h.os, h.tape, h.output, h.size, fun k hk hne => h.block k hk (fun e => hne (by rw [e]))⟩
theorem rdl_of {w : World} {R S : Nat} {l : List Int} (h : Rdr 91 w R S l) : RdL w R l := by
  obtain ⟨ao, cap, h1, _⟩ := h
  exact ⟨ao, cap, h1⟩
theorem RdL.lt {w : World} {R : Nat} {l : List Int} (h : RdL w R l) : R < w.heap.size := by
  obtain ⟨ao, cap, h1⟩ := h
  exact (Array.getElem?_eq_some_iff.1 h1).1
theorem RdL.only {w w' : World} {R D : Nat} {l : List Int} (h : RdL w R l) (ho : Only (fun j => j = D) w w') (hne : R ≠ D) : RdL w' R l := by
  have hlt := h.lt
  obtain ⟨ao, cap, h1⟩ := h
  exact ⟨ao, cap, (ho.block R hlt hne).trans h1⟩
theorem RdL.alloc {w : World} {R : Nat} {l : List Int} (h : RdL w R l) (o : Obj) : RdL (w.alloc o) R l := by
  have hlt := h.lt
  obtain ⟨ao, cap, h1⟩ := h
  exact ⟨ao, cap, (Below.heap_alloc w o R hlt).trans h1⟩
theorem step1 {w WD y1 : World} {R DD : Nat} {B l L0 : List Int} {o : Obj} (hb : Below w.heap.size w WD) (hn : R < DD ∧ w.heap.size ≤ R) (hD : Doc w.heap.size WD DD B l) (hL : RdL y1 R L0) (o1 : Only (fun j => j = R) WD y1) :
    (y1.alloc o).heap[y1.heap.size]? = some o ∧ RdL (y1.alloc o) R L0 ∧ Doc w.heap.size (y1.alloc o) DD B l ∧ Below w.heap.size w (y1.alloc o) ∧ R < DD ∧ DD < y1.heap.size ∧ w.heap.size ≤ R := by
  have hD1 : Doc w.heap.size y1 DD B l := hD.kept (grown_of_only o1) (fun k hk => by cases hk; omega)
  have hB1 : Below w.heap.size w y1 := Below.only hb o1 hb.size (fun j hj => by rw [hj]; exact hn.2)
  exact ⟨heap_alloc_new y1 o, hL.alloc o, hD1.alloc o, hB1.alloc hB1.size o, hn.1, hD1.lt, hn.2⟩
theorem step2 {w W1 y2 : World} {R DD X : Nat} {B l L0 : List Int} {o : Obj} (h : W1.heap[X]? = some o ∧ RdL W1 R L0 ∧ Doc w.heap.size W1 DD B l ∧ Below w.heap.size w W1 ∧ R < DD ∧ DD < X ∧ w.heap.size ≤ R) (hD : Doc w.heap.size y2 DD B L0) (o2 : Only (fun j => j = DD) W1 y2) :
    (y2.alloc o).heap[X]? = some o ∧ (y2.alloc o).heap[y2.heap.size]? = some o ∧ RdL (y2.alloc o) R L0 ∧ Doc w.heap.size (y2.alloc o) DD B L0 ∧ Below w.heap.size w (y2.alloc o) := by
  obtain ⟨h1, h2, h3, h4, h5, h6, h7⟩ := h
  have hx := (Array.getElem?_eq_some_iff.1 h1).1
  have hX := (o2.block X hx (by omega)).trans h1
  have hB2 : Below w.heap.size w y2 := Below.only h4 o2 h4.size (fun j hj => by rw [hj]; omega)
  exact ⟨(Below.heap_alloc y2 o X (Array.getElem?_eq_some_iff.1 hX).1).trans hX, heap_alloc_new y2 o, (h2.only o2 (by omega)).alloc o, hD.alloc o, hB2.alloc hB2.size o⟩
theorem Rdr.alloc {w : World} {R S : Nat} {l : List Int} (h : Rdr 91 w R S l) (o : Obj) : Rdr 91 (w.alloc o) R S l := h.kept (World.grownBy_alloc w o none) (by simp)
set_option maxHeartbeats 8000000 in
set_option maxRecDepth 100000 in
theorem takes_walk (ao : Option Addr) (cap : Nat) (B : List Int) (at' : Int) (w : World) (hRd : Rd w ao B) (hnil : ao = none → cap = 0) (hcap : B.length ≤ cap) (hcm : cap ≤ 9223372036854775807) (h8 : ∀ y ∈ B, 0 ≤ y ∧ y ≤ 255) (hblk : B ≠ [] → ∀ a, ao = some a → a.block < w.heap.size) (hE : EnvE w) : Calls Tryz.prog 4 #[.slice ao B.length cap, .int .i64 at'] w fun e w' => e = .returned (.bool true) ∧ Below w.heap.size w w' := by
  have h9 : ∀ W, Below w.heap.size w W → Calls Tryz.prog 9 #[] W fun e w' => e = .returned (.bool true) ∧ Below W.heap.size W w' := fun W h => known_any W (hE.below h)
  have h26 := fun n W => num_any n W
  by_cases hbig : 9000 < B.length
  · have z1 : (9000 : Int) < (B.length : Int) := by omega
    go_enter Tryz.func4, Tryz.ntmps4
    go_wp2_with (go_at_call 9; refine (h9 _ (Below.refl _ _)).mono ?_; rintro e w2 ⟨rfl, b2⟩)
    go_ret
    exact ⟨rfl, b2⟩
  have z1 : ¬ (9000 : Int) < (B.length : Int) := by omega
  by_cases hneg : at' < 0
  · go_enter Tryz.func4, Tryz.ntmps4
    go_wp2_with (go_at_call 9; refine (h9 _ (Below.refl _ _)).mono ?_; rintro e w2 ⟨rfl, b2⟩)
    go_ret
    exact ⟨rfl, b2⟩
  by_cases hgt : (B.length : Int) < at'
  · go_enter Tryz.func4, Tryz.ntmps4
    go_wp2_with (go_at_call 9; refine (h9 _ (Below.refl _ _)).mono ?_; rintro e w2 ⟨rfl, b2⟩)
    go_ret
    exact ⟨rfl, b2⟩
  obtain ⟨ta, rfl⟩ : ∃ ta : Nat, at' = (ta : Int) := ⟨at'.toNat, by omega⟩
  have hta : ta ≤ B.length := by omega
  have wS : IntKind.i64.wrap ((B.length : Int) - (ta : Int)) = (B.length : Int) - (ta : Int) := by rw [IntKind.wrap_i64]; omega
  have h31 : ∀ W, Below w.heap.size w W → Calls Tryz.prog 31 #[.slice ao B.length cap] W fun e w' => ∃ R, e = .returned (.pointer (some ⟨R, 0, none⟩)) ∧ Rdr 91 w' R (R + 1) B ∧ W.heap.size ≤ R ∧ R + 1 = w'.heap.size ∧ Below W.heap.size W w' := fun W h => open_any ao cap _ _ W rfl (hRd.below h) hnil (by omega) h8
  have HG := hide (And.intro hRd (And.intro hnil (And.intro hcap (And.intro hcm (And.intro h8 hblk)))))
  clear hRd hnil hcap hcm h8 hblk
  go_enter Tryz.func4, Tryz.ntmps4
  go_wp2
  go_loopw [5, 6, 7, 8, 9, 10, 11, 12, 13, 14, 15, 16, 17, 18, 19, 20, 21] (fun v5 _ _ _ _ _ _ _ _ _ _ _ _ _ _ _ _ wr => ∃ k : Nat, k ≤ 3 ∧ v5 = .int .i64 (k : Int) ∧ Hid (Below w.heap.size w wr)) (fun v5 _ _ _ _ _ _ _ _ _ _ _ _ _ _ _ _ _ => (3 - intOf v5).toNat)
  case atStart => exact ⟨0, by omega, rfl, hide (Below.refl _ _)⟩
  case round =>
    obtain ⟨k, hk, rfl, HB⟩ := hrel
    obtain ⟨wo, rfl⟩ : ∃ wo, wo = wr := ⟨_, rfl⟩
    by_cases hk3 : k < 3
    case neg =>
      obtain rfl : k = 3 := by omega
      go_wp2_with (go_at_call 9; refine (h9 _ HB.out).mono ?_; rintro e w2 ⟨rfl, b2⟩)
      go_ret
      exact ⟨rfl, HB.out.trans (b2.mono HB.out.size)⟩
    case pos =>
    have zk : (k : Int) < 3 := by omega
    go_wp2_with (go_at_call 31; refine (h31 _ HB.out).mono ?_; rintro e z1 ⟨R, rfl, hR1, hs1, he1, b1⟩; have HI := hide (And.intro hR1 (And.intro hs1 (And.intro he1 b1))); clear hR1 hs1 he1 b1; dsimp only)
    go_loopw [7] (fun v7 wi => ∃ (i : Nat) (l : List Int), i ≤ ta ∧ v7 = .int .i64 (i : Int) ∧ l.length ≤ B.length ∧ Hid (Rdr 91 wi R (R + 1) l ∧ l <:+ B ∧ Below wo.heap.size wo wi ∧ R + 1 ≤ wi.heap.size)) (fun v7 _ => (ta - intOf v7).toNat)
    case atStart => exact ⟨0, B, by omega, rfl, Nat.le_refl _, hide ⟨HI.out.1, List.suffix_refl _, HI.out.2.2.2, Nat.le_of_eq HI.out.2.2.1⟩⟩
    case round =>
      obtain ⟨i, l, hi, rfl, hll, HL⟩ := hrel
      have hRw : wo.heap.size ≤ R := HI.out.2.1
      by_cases hit : i < ta
      · have zi : (i : Int) < (ta : Int) := by omega
        have hleft : ∀ W, Rdr 91 W R (R + 1) l → Calls Tryz.prog 32 #[.pointer (some ⟨R, 0, none⟩)] W fun e w' => e = .returned (.int .i64 l.length) ∧ w' = W := fun W h => left_rdl R l W (rdl_of h)
        by_cases hmore : (B.length : Int) - (ta : Int) < (l.length : Int)
        · have hfl : ∀ W, Rdr 91 W R (R + 1) l → Calls Tryz.prog 33 #[.pointer (some ⟨R, 0, none⟩)] W fun e w' => (∃ x y, e = .returned (.tuple #[x, y])) ∧ Rdr 91 w' R (R + 1) (rflag l).2.2 ∧ W.grownBy w' (some R) := fun W h => (rflag_any R (R + 1) l W h).mono fun e w' ⟨h1, h2, h3⟩ => ⟨⟨_, _, h1⟩, h2, h3⟩
          have hnu : ∀ W, Rdr 91 W R (R + 1) (rflag l).2.2 → Calls Tryz.prog 34 #[.pointer (some ⟨R, 0, none⟩)] W fun e w' => (∃ x y, e = .returned (.tuple #[x, y])) ∧ Rdr 91 w' R (R + 1) (rnum (rflag l).2.2).2.2 ∧ W.grownBy w' (some R) := fun W h => (rnumber_any R (R + 1) _ W h).mono fun e w' ⟨h1, h2, h3⟩ => ⟨⟨_, _, h1⟩, h2, h3⟩
          have s1 := rflag_suf l
          have s2 := rnum_suf (rflag l).2.2
          generalize (rnum (rflag l).2.2).2.2 = l2 at hnu s2
          generalize (rflag l).2.2 = l1 at hfl hnu s1 s2
          have HSF := hide (s2.trans s1)
          clear s1 s2
          go_wp2_with (go_at_call 32; refine (hleft _ HL.out.1).mono ?_; rintro e zx ⟨rfl, hzx⟩; subst hzx; dsimp only)
          go_wp2_with (go_at_call 33; refine (hfl _ HL.out.1).mono ?_; rintro e y1 ⟨⟨p1, p2, rfl⟩, hr1, hg1⟩; have HY1 := hide (And.intro hr1 hg1); clear hr1 hg1; dsimp only)
          go_wp2_with (go_at_call 34; refine (hnu _ HY1.out.1).mono ?_; rintro e y2 ⟨⟨p3, p4, rfl⟩, hr2, hg2⟩; have HY2 := hide (And.intro hr2 hg2); clear hr2 hg2; dsimp only)
          go_roundw
          case rel => exact ⟨i + 1, l2, by omega, by go_num, Nat.le_trans HSF.out.length_le hll, hide ⟨HY2.out.1, HSF.out.trans HL.out.2.1, Below.only (Below.only HL.out.2.2.1 (only_D HY1.out.2) HL.out.2.2.1.size (fun j hj => by rw [hj]; exact hRw)) (only_D HY2.out.2) (Nat.le_trans HL.out.2.2.1.size HY1.out.2.size) (fun j hj => by rw [hj]; exact hRw), Nat.le_trans HL.out.2.2.2 (Nat.le_trans HY1.out.2.size HY2.out.2.size)⟩⟩
          case measure => simp [intOf]; omega
        · go_wp2_with (go_at_call 32; refine (hleft _ HL.out.1).mono ?_; rintro e zx ⟨rfl, hzx⟩; subst hzx; dsimp only)
          go_roundw
          case rel => exact ⟨i + 1, l, by omega, by go_num, hll, HL⟩
          case measure => simp [intOf]; omega
      · obtain rfl : i = ta := by omega
        have zi : ¬ (i : Int) < (i : Int) := by omega
        have wD : IntKind.i64.wrap ((B.length : Int) - (l.length : Int)) = ((B.length - l.length : Nat) : Int) := by rw [IntKind.wrap_i64]; omega
        have hleft : ∀ W, Rdr 91 W R (R + 1) l → Calls Tryz.prog 32 #[.pointer (some ⟨R, 0, none⟩)] W fun e w' => e = .returned (.int .i64 l.length) ∧ w' = W := fun W h => left_rdl R l W (rdl_of h)
        have key : ∀ W, Rdr 91 W R (R + 1) l → l <:+ B → Below wo.heap.size wo W → R + 1 ≤ W.heap.size → Rdr 91 (W.alloc (.cells #[.slice ao B.length cap, .int .i64 ((B.length - l.length : Nat) : Int)] 59)) R (R + 1) l ∧ Doc w.heap.size (W.alloc (.cells #[.slice ao B.length cap, .int .i64 ((B.length - l.length : Nat) : Int)] 59)) W.heap.size B l ∧ (R < W.heap.size ∧ w.heap.size ≤ R) ∧ R + 1 ≤ (W.alloc (.cells #[.slice ao B.length cap, .int .i64 ((B.length - l.length : Nat) : Int)] 59)).heap.size ∧ Below w.heap.size w (W.alloc (.cells #[.slice ao B.length cap, .int .i64 ((B.length - l.length : Nat) : Int)] 59)) := fun W q1 q2 q3 q4 => by
          obtain ⟨g1, g2, g3, g4, g5, g6⟩ := HG.out
          have hB1 : Below w.heap.size w W := HB.out.trans (q3.mono HB.out.size)
          have hsz := HB.out.size
          have hB2 : Below w.heap.size w (W.alloc (.cells #[.slice ao B.length cap, .int .i64 ((B.length - l.length : Nat) : Int)] 59)) := hB1.alloc hB1.size _
          refine ⟨q1.alloc _, ⟨ao, cap, B.length - l.length, heap_alloc_new W _, g1.below hB2, g2, g3, g4, by omega, ⟨g6, by omega⟩, g5, by omega, ?_⟩, ⟨by omega, by omega⟩, by simp; omega, hB2⟩
          obtain ⟨t, ht⟩ := q2
          rw [← ht]
          simp
        obtain rfl | rfl | rfl : k = 0 ∨ k = 1 ∨ k = 2 := by omega
        ·
          go_wp2_with (go_at_call 32; refine (hleft _ HL.out.1).mono ?_; rintro e zx ⟨rfl, hzx⟩; subst hzx; have HS := hide (key _ HL.out.1 HL.out.2.1 HL.out.2.2.1 HL.out.2.2.2); clear key hleft; dsimp only)
          generalize hDDe : zx.heap.size = DD at HS ⊢
          clear hDDe
          generalize zx.alloc (.cells #[.slice ao B.length cap, .int .i64 ((B.length - l.length : Nat) : Int)] 59) = WD at HS ⊢
          have hP : ∀ W, Rdr 91 W R (R + 1) l → R + 1 ≤ W.heap.size → Calls Tryz.prog 35 #[.pointer (some ⟨R, 0, none⟩)] W fun e w' => e = .returned (.tuple #[.agg #[.int .i64 (tkB0 l), .string (tkB1 l)], .int .i64 (if tkBV l then 0 else 4)]) ∧ RdL w' R (tkBL l) ∧ Only (fun j => j = R) W w' := fun W h1 h2 => takeB_any R (R + 1) l W h1 h2 (by omega)
          have hDk : ∀ W D, Doc w.heap.size W D B l → Calls Tryz.prog 36 #[.pointer (some ⟨D, 0, none⟩)] W fun e w' => e = .returned (.tuple #[.agg #[.int .i64 (tkB0 l), .string (tkB1 l)], .int .i64 (if tkBV l then 0 else 4)]) ∧ Doc w.heap.size w' D B (tkBL l) ∧ Only (fun j => j = D) W w' := fun W D h => takeDB_any D B l W h
          generalize (if tkBV l then (0 : Int) else 4) = E0 at hP hDk
          generalize tkB0 l = A0 at hP hDk
          generalize tkB1 l = A1 at hP hDk
          generalize tkBL l = L0 at hP hDk
          have heq : ∀ W, (binOp .eql 23 (.agg #[.int .i64 A0, .string A1]) (.agg #[.int .i64 A0, .string A1])).run Tryz.prog W = .ok (.bool true) W := fun W => by rw [run_eq23]; simp
          go_wp2_with (go_at_call 35; refine (hP _ HS.out.1 HS.out.2.2.2.1).mono ?_; rintro e y1 ⟨rfl, hL1, o1⟩; have HS1 := hide (step1 (o := (.cells #[.int .i64 A0, .string A1] 23)) HS.out.2.2.2.2 HS.out.2.2.1 HS.out.2.1 hL1 o1); clear hL1 o1; dsimp only)
          go_wp2_with (go_at_call 36; refine (hDk _ DD HS1.out.2.2.1).mono ?_; rintro e y2 ⟨rfl, hD2, o2⟩; have HS2 := hide (step2 (o := (.cells #[.int .i64 A0, .string A1] 23)) HS1.out hD2 o2); clear hD2 o2; obtain ⟨c0, c1, _, _⟩ := blk2 HS2.out.1; obtain ⟨d0, d1, _, _⟩ := blk2 HS2.out.2.1; dsimp only)
          go_wp2_with (go_at_call 26; refine (h26 _ _).mono ?_; rintro e yx ⟨rfl, hyx⟩; subst hyx; dsimp only)
          go_wp2_with (go_at_call 32; refine (left_rdl R L0 _ HS2.out.2.2.1).mono ?_; rintro e yx ⟨rfl, hyx⟩; subst hyx; dsimp only)
          go_wp2_with (go_at_call 41; refine (dleft_any DD B L0 _ HS2.out.2.2.2.1).mono ?_; rintro e y3 ⟨rfl, nn, rfl⟩; dsimp only)
          go_roundw
          case rel => exact ⟨1, by omega, rfl, hide (HS2.out.2.2.2.2.trans ((below_drew _ nn).mono HS2.out.2.2.2.2.size))⟩
          case measure => simp [intOf]
        ·
          go_wp2_with (go_at_call 32; refine (hleft _ HL.out.1).mono ?_; rintro e zx ⟨rfl, hzx⟩; subst hzx; have HS := hide (key _ HL.out.1 HL.out.2.1 HL.out.2.2.1 HL.out.2.2.2); clear key hleft; dsimp only)
          generalize hDDe : zx.heap.size = DD at HS ⊢
          clear hDDe
          generalize zx.alloc (.cells #[.slice ao B.length cap, .int .i64 ((B.length - l.length : Nat) : Int)] 59) = WD at HS ⊢
          have hP : ∀ W, Rdr 91 W R (R + 1) l → R + 1 ≤ W.heap.size → Calls Tryz.prog 37 #[.pointer (some ⟨R, 0, none⟩)] W fun e w' => e = .returned (.tuple #[.agg #[.int .i64 (tkN0 l), .string (tkN1 l), .int .i64 (tkN2 l)], .int .i64 (if tkNV l then 0 else 4)]) ∧ RdL w' R (tkNL l) ∧ Only (fun j => j = R) W w' := fun W h1 h2 => takeN_any R (R + 1) l W h1 h2 (by omega)
          have hDk : ∀ W D, Doc w.heap.size W D B l → Calls Tryz.prog 38 #[.pointer (some ⟨D, 0, none⟩)] W fun e w' => e = .returned (.tuple #[.agg #[.int .i64 (tkN0 l), .string (tkN1 l), .int .i64 (tkN2 l)], .int .i64 (if tkNV l then 0 else 4)]) ∧ Doc w.heap.size w' D B (tkNL l) ∧ Only (fun j => j = D) W w' := fun W D h => takeDN_any D B l W h
          generalize (if tkNV l then (0 : Int) else 4) = E0 at hP hDk
          generalize tkN0 l = A0 at hP hDk
          generalize tkN1 l = A1 at hP hDk
          generalize tkN2 l = A2 at hP hDk
          generalize tkNL l = L0 at hP hDk
          have heq : ∀ W, (binOp .eql 25 (.agg #[.int .i64 A0, .string A1, .int .i64 A2]) (.agg #[.int .i64 A0, .string A1, .int .i64 A2])).run Tryz.prog W = .ok (.bool true) W := fun W => by rw [run_eq25]; simp
          go_wp2_with (go_at_call 37; refine (hP _ HS.out.1 HS.out.2.2.2.1).mono ?_; rintro e y1 ⟨rfl, hL1, o1⟩; have HS1 := hide (step1 (o := (.cells #[.int .i64 A0, .string A1, .int .i64 A2] 25)) HS.out.2.2.2.2 HS.out.2.2.1 HS.out.2.1 hL1 o1); clear hL1 o1; dsimp only)
          go_wp2_with (go_at_call 38; refine (hDk _ DD HS1.out.2.2.1).mono ?_; rintro e y2 ⟨rfl, hD2, o2⟩; have HS2 := hide (step2 (o := (.cells #[.int .i64 A0, .string A1, .int .i64 A2] 25)) HS1.out hD2 o2); clear hD2 o2; obtain ⟨c0, c1, c2, _, _, _⟩ := blk3 HS2.out.1; obtain ⟨d0, d1, d2, _, _, _⟩ := blk3 HS2.out.2.1; dsimp only)
          go_wp2_with (go_at_call 26; refine (h26 _ _).mono ?_; rintro e yx ⟨rfl, hyx⟩; subst hyx; dsimp only)
          go_wp2_with (go_at_call 32; refine (left_rdl R L0 _ HS2.out.2.2.1).mono ?_; rintro e yx ⟨rfl, hyx⟩; subst hyx; dsimp only)
          go_wp2_with (go_at_call 41; refine (dleft_any DD B L0 _ HS2.out.2.2.2.1).mono ?_; rintro e y3 ⟨rfl, nn, rfl⟩; dsimp only)
          go_roundw
          case rel => exact ⟨2, by omega, rfl, hide (HS2.out.2.2.2.2.trans ((below_drew _ nn).mono HS2.out.2.2.2.2.size))⟩
          case measure => simp [intOf]
        ·
          go_wp2_with (go_at_call 32; refine (hleft _ HL.out.1).mono ?_; rintro e zx ⟨rfl, hzx⟩; subst hzx; have HS := hide (key _ HL.out.1 HL.out.2.1 HL.out.2.2.1 HL.out.2.2.2); clear key hleft; dsimp only)
          generalize hDDe : zx.heap.size = DD at HS ⊢
          clear hDDe
          generalize zx.alloc (.cells #[.slice ao B.length cap, .int .i64 ((B.length - l.length : Nat) : Int)] 59) = WD at HS ⊢
          have hP : ∀ W, Rdr 91 W R (R + 1) l → R + 1 ≤ W.heap.size → Calls Tryz.prog 39 #[.pointer (some ⟨R, 0, none⟩)] W fun e w' => e = .returned (.tuple #[.agg #[.int .i64 (tkS0 l), .int .i64 (tkS1 l), .string (tkS2 l), .int .i64 (tkS3 l), .int .i64 (tkS4 l)], .int .i64 (if tkSV l then 0 else 4)]) ∧ RdL w' R (tkSL l) ∧ Only (fun j => j = R) W w' := fun W h1 h2 => takeS_any R (R + 1) l W h1 h2 (by omega)
          have hDk : ∀ W D, Doc w.heap.size W D B l → Calls Tryz.prog 40 #[.pointer (some ⟨D, 0, none⟩)] W fun e w' => e = .returned (.tuple #[.agg #[.int .i64 (tkS0 l), .int .i64 (tkS1 l), .string (tkS2 l), .int .i64 (tkS3 l), .int .i64 (tkS4 l)], .int .i64 (if tkSV l then 0 else 4)]) ∧ Doc w.heap.size w' D B (tkSL l) ∧ Only (fun j => j = D) W w' := fun W D h => takeDS_any D B l W h
          generalize (if tkSV l then (0 : Int) else 4) = E0 at hP hDk
          generalize tkS0 l = A0 at hP hDk
          generalize tkS1 l = A1 at hP hDk
          generalize tkS2 l = A2 at hP hDk
          generalize tkS3 l = A3 at hP hDk
          generalize tkS4 l = A4 at hP hDk
          generalize tkSL l = L0 at hP hDk
          have heq : ∀ W, (binOp .eql 27 (.agg #[.int .i64 A0, .int .i64 A1, .string A2, .int .i64 A3, .int .i64 A4]) (.agg #[.int .i64 A0, .int .i64 A1, .string A2, .int .i64 A3, .int .i64 A4])).run Tryz.prog W = .ok (.bool true) W := fun W => by rw [run_eq27]; simp
          go_wp2_with (go_at_call 39; refine (hP _ HS.out.1 HS.out.2.2.2.1).mono ?_; rintro e y1 ⟨rfl, hL1, o1⟩; have HS1 := hide (step1 (o := (.cells #[.int .i64 A0, .int .i64 A1, .string A2, .int .i64 A3, .int .i64 A4] 27)) HS.out.2.2.2.2 HS.out.2.2.1 HS.out.2.1 hL1 o1); clear hL1 o1; dsimp only)
          go_wp2_with (go_at_call 40; refine (hDk _ DD HS1.out.2.2.1).mono ?_; rintro e y2 ⟨rfl, hD2, o2⟩; have HS2 := hide (step2 (o := (.cells #[.int .i64 A0, .int .i64 A1, .string A2, .int .i64 A3, .int .i64 A4] 27)) HS1.out hD2 o2); clear hD2 o2; obtain ⟨c0, c1, c2, c3, c4, _, _, _, _, _⟩ := blk5 HS2.out.1; obtain ⟨d0, d1, d2, d3, d4, _, _, _, _, _⟩ := blk5 HS2.out.2.1; dsimp only)
          go_wp2_with (go_at_call 26; refine (h26 _ _).mono ?_; rintro e yx ⟨rfl, hyx⟩; subst hyx; dsimp only)
          go_wp2_with (go_at_call 32; refine (left_rdl R L0 _ HS2.out.2.2.1).mono ?_; rintro e yx ⟨rfl, hyx⟩; subst hyx; dsimp only)
          go_wp2_with (go_at_call 41; refine (dleft_any DD B L0 _ HS2.out.2.2.2.1).mono ?_; rintro e y3 ⟨rfl, nn, rfl⟩; dsimp only)
          go_roundw
          case rel => exact ⟨3, by omega, rfl, hide (HS2.out.2.2.2.2.trans ((below_drew _ nn).mono HS2.out.2.2.2.2.size))⟩
          case measure => simp [intOf]
end Go.Proofs.YtkjabnpniingnaaGreatDoor
