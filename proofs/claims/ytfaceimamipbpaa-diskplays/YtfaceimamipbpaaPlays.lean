/-
  WALKS over DiskPlays: where Of refuses.
-/
import Derived.Test.YtfaceimamipbpaaDoes5
namespace Go.Proofs.Ytfaceimamipbpaa
open Go.RowKit
set_option linter.unusedSimpArgs false

abbrev W0 (w : World) (cap u : Int) (x0 x1 : Option Addr) (c0 c1 : Nat) (l0 l1 : List Int) : World := w.alloc (.cells #[.int .i64 cap, .int .i64 u, .slice x0 l0.length c0, .slice x1 l1.length c1] 24)
theorem W0_cells {w wr : World} {cap u : Int} {x0 x1 : Option Addr} {c0 c1 : Nat} {l0 l1 : List Int} (h : Below (w.heap.size + 1) (W0 w cap u x0 x1 c0 c1 l0 l1) wr) :
    wr.cell? ⟨w.heap.size, 0, none⟩ = some (.int .i64 cap) ∧ wr.cell? ⟨w.heap.size, 1, none⟩ = some (.int .i64 u) ∧ wr.cell? ⟨w.heap.size, 2, none⟩ = some (.slice x0 l0.length c0) ∧ wr.cell? ⟨w.heap.size, 3, none⟩ = some (.slice x1 l1.length c1) := by
  have e : wr.heap[w.heap.size]? = some (.cells #[.int .i64 cap, .int .i64 u, .slice x0 l0.length c0, .slice x1 l1.length c1] 24 (0, 0)) := (h.block _ (by omega)).trans (heap_alloc_new w _)
  refine ⟨?_, ?_, ?_, ?_⟩
  · rw [cell_of_row wr _ 0 _ 24 (0, 0) e]; rfl
  · rw [cell_of_row wr _ 1 _ 24 (0, 0) e]; rfl
  · rw [cell_of_row wr _ 2 _ 24 (0, 0) e]; rfl
  · rw [cell_of_row wr _ 3 _ 24 (0, 0) e]; rfl

theorem left_first {w1 w2 w3 A : World} {m1 m2 : Option Addr} {k1 k2 n : Nat} {l0 l1 : List Int} {Wz : World} (hz : n ≤ Wz.heap.size) (b : Below n A w2) (h1 : Lent w1 Wz.heap.size m1 k1 l0) (h2 : Lent w2 Wz.heap.size m1 k1 l0) (h3 : Lent w2 w1.heap.size m2 k2 l1) (on : Only (fun k => Value.ownBlock (.slice m1 l0.length k1) = some k) w2 w3) :
    Hid (Below n A w3 ∧ Lent w3 w1.heap.size m2 k2 l1) := by
  obtain ⟨g, rfl, _, hg, hg2⟩ := h1.mark
  obtain ⟨g', q, _, _, hg4⟩ := h2.mark
  cases q
  obtain ⟨g', rfl, _, hg', hg2'⟩ := h3.mark
  refine hide ⟨b.trans (on.belowB ?_ (by omega)), h3.only on ?_⟩
  · intro k q; simp [Value.ownBlock] at q; omega
  · intro j q1 q2; simp [Value.ownBlock] at q1 q2; omega
theorem left_second {w1 w3 w4 A : World} {m2 : Option Addr} {k2 n : Nat} {l1 : List Int} (hz : n ≤ w1.heap.size) (b : Below n A w3) (h3 : Lent w3 w1.heap.size m2 k2 l1) (on : Only (fun k => Value.ownBlock (.slice m2 l1.length k2) = some k) w3 w4) :
    Hid (Below n A w4) := by
  obtain ⟨g', rfl, _, hg', hg2'⟩ := h3.mark
  refine hide (b.trans (on.belowB ?_ (by omega)))
  intro k q; simp [Value.ownBlock] at q; omega

section
variable {w : World} {cap u : Int} {x0 x1 so : Option Addr} {c0 c1 sc : Nat} {l0 l1 : List Int} {T : List Stp} {leave : Int}
set_option maxHeartbeats 2000000 in
set_option maxRecDepth 100000 in
theorem plays_no (he : ofE cap u l0 l1 ≠ 0) (hns : T.length ≤ 60) (r0 : Rd w x0 l0) (r1 : Rd w x1 l1) (n0 : x0 = none → c0 = 0) (n1 : x1 = none → c1 = 0) (hl0 : l0.length ≤ 140737488351232) (hl1 : l1.length ≤ 140737488351232) (hT : StepsAt w so T) (hTl : ∀ x ∈ T, x.data.length ≤ 140737488351232) :
    Calls Try.prog 3 #[.agg #[.int .i64 cap, .int .i64 u, .slice x0 l0.length c0, .slice x1 l1.length c1], .slice so T.length sc, .int .i64 leave] w fun e w' => e = .returned (.bool true) ∧ Below w.heap.size w w' := by
  have HW : Hid (Below w.heap.size w (W0 w cap u x0 x1 c0 c1 l0 l1)) := hide ((Below.refl _ w).alloc (Nat.le_refl _) _)
  have hz : (W0 w cap u x0 x1 c0 c1 l0 l1).drew.heap.size = w.heap.size + 1 := by simp [World.drew]
  have HB := hide (And.intro (show w.heap.size + 1 ≤ (W0 w cap u x0 x1 c0 c1 l0 l1).drew.heap.size by omega) (Below.refl (w.heap.size + 1) (W0 w cap u x0 x1 c0 c1 l0 l1)).drew)
  have hS0 : (W0 w cap u x0 x1 c0 c1 l0 l1).drew.cell? ⟨w.heap.size, 2, none⟩ = some (.slice x0 l0.length c0) ∧ (W0 w cap u x0 x1 c0 c1 l0 l1).drew.cell? ⟨w.heap.size, 3, none⟩ = some (.slice x1 l1.length c1) := (W0_cells HB.out.2).2.2
  have hL1 := lent_any x0 c0 l0 (W0 w cap u x0 x1 c0 c1 l0 l1).drew (r0.below (HW.out.trans (HB.out.2.mono (Nat.le_succ _)))) n0 hl0
  have hd0 : decide ((60 : Int) < (T.length : Int)) = false := by simp; omega
  have hd1 : decide (60 < T.length) = false := by simp; omega
  go_enter Try.func3, Try.ntmps3
  go_wp2
  refine wp_region_held_drew (S := (fun w' => w'.cell? ⟨w.heap.size, 2, none⟩ = some (.slice x0 l0.length c0) ∧ w'.cell? ⟨w.heap.size, 3, none⟩ = some (.slice x1 l1.length c1))) (by kernel_rfl) (by exact hS0) (fun hHeld => ?_)
  try dsimp only at hHeld
  refine take_op (i := 0) (d := 19) (OP := Op.fieldAddr 24 (Operand.tmp 3) 2) (T := 0) (v := ?vq1x) rfl rfl rfl rfl (by kernel_rfl) (by kernel_rfl) (by kernel_rfl) (fun _ _ _ h => h) (by rfl) ?hq1x hHeld ?rq1x
  case hq1x => (intro w' hSw; (try dsimp only at hSw); go_simp <;> with_reducible rfl)
  try simp only [Act.put, List.setIfInBounds_toArray, List.set_cons_zero, List.set_cons_succ]
  refine take_op (i := 1) (d := 20) (OP := Op.load 22 (Operand.tmp 19)) (T := 22) (v := ?vq2x) rfl rfl rfl rfl (by kernel_rfl) (by kernel_rfl) (by kernel_rfl) (fun _ _ _ h => h) (by rfl) ?hq2x hHeld ?rq2x
  case hq2x => (intro w' hSw; (try dsimp only at hSw); go_simp <;> with_reducible rfl)
  try simp only [Act.put, List.setIfInBounds_toArray, List.set_cons_zero, List.set_cons_succ]
  refine take_op (i := 3) (d := 22) (OP := Op.fieldAddr 24 (Operand.tmp 3) 3) (T := 0) (v := ?vq3x) rfl rfl rfl rfl (by kernel_rfl) (by kernel_rfl) (by kernel_rfl) (fun _ _ _ h => h) (by rfl) ?hq3x hHeld ?rq3x
  case hq3x => (intro w' hSw; (try dsimp only at hSw); go_simp <;> with_reducible rfl)
  try simp only [Act.put, List.setIfInBounds_toArray, List.set_cons_zero, List.set_cons_succ]
  refine take_op (i := 4) (d := 23) (OP := Op.load 22 (Operand.tmp 22)) (T := 22) (v := ?vq4x) rfl rfl rfl rfl (by kernel_rfl) (by kernel_rfl) (by kernel_rfl) (fun _ _ _ h => h) (by rfl) ?hq4x hHeld ?rq4x
  case hq4x => (intro w' hSw; (try dsimp only at hSw); go_simp <;> with_reducible rfl)
  try simp only [Act.put, List.setIfInBounds_toArray, List.set_cons_zero, List.set_cons_succ]
  refine call_op (i := 2) (d := 21) (OP := Op.call { callee := Callee.value (Operand.func 7), args := #[Operand.tmp 20], argTypes := #[22] }) (T := 22) (f := 7) (args := #[.slice x0 l0.length c0]) rfl rfl rfl rfl (by kernel_rfl) (by rfl) (by go_simp) ?_
  refine (hL1).mono ?_
  rintro e w1 ⟨m1, k1, rfl, hM1, b1⟩
  have hS1 : w1.cell? ⟨w.heap.size, 2, none⟩ = some (.slice x0 l0.length c0) ∧ w1.cell? ⟨w.heap.size, 3, none⟩ = some (.slice x1 l1.length c1) := ⟨(b1.cell (World.block_lt_of_cell? _ _ hHeld.1)).trans hHeld.1, (b1.cell (World.block_lt_of_cell? _ _ hHeld.2)).trans hHeld.2⟩
  have B1 := hide (HB.out.2.trans (b1.mono HB.out.1))
  have M1 := hide hM1
  have b1' := hide b1
  clear hM1 b1 hL1
  refine ⟨_, rfl, hS1, ?_⟩
  replace hHeld := hS1
  try simp only [Act.put, List.setIfInBounds_toArray, List.set_cons_zero, List.set_cons_succ]
  refine call_op (i := 5) (d := 24) (OP := Op.call { callee := Callee.value (Operand.func 7), args := #[Operand.tmp 23], argTypes := #[22] }) (T := 22) (f := 7) (args := #[.slice x1 l1.length c1]) rfl rfl rfl rfl (by kernel_rfl) (by rfl) (by go_simp) ?_
  refine ((lent_any x1 c1 l1 w1 (r1.below (HW.out.trans (B1.out.mono (Nat.le_succ _)))) n1 hl1)).mono ?_
  rintro e w2 ⟨m2, k2, rfl, hM2, b2⟩
  have hS2 : w2.cell? ⟨w.heap.size, 2, none⟩ = some (.slice x0 l0.length c0) ∧ w2.cell? ⟨w.heap.size, 3, none⟩ = some (.slice x1 l1.length c1) := ⟨(b2.cell (World.block_lt_of_cell? _ _ hHeld.1)).trans hHeld.1, (b2.cell (World.block_lt_of_cell? _ _ hHeld.2)).trans hHeld.2⟩
  have B2 := hide (B1.out.trans (b2.mono (Nat.le_trans HB.out.1 b1'.out.size)))
  have M2 := hide (And.intro hM2 (M1.out.below b2))
  clear hM2 b2
  refine ⟨_, rfl, hS2, ?_⟩
  replace hHeld := hS2
  try simp only [Act.put, List.setIfInBounds_toArray, List.set_cons_zero, List.set_cons_succ]
  refine take_op (i := 6) (d := 7) (OP := Op.assign (Operand.tmp 21)) (T := 22) (v := ?vq7x) rfl rfl rfl rfl (by kernel_rfl) (by kernel_rfl) (by kernel_rfl) (fun _ _ _ h => h) (by rfl) ?hq7x hHeld ?rq7x
  case hq7x => (intro w' hSw; (try dsimp only at hSw); go_simp <;> with_reducible rfl)
  try simp only [Act.put, List.setIfInBounds_toArray, List.set_cons_zero, List.set_cons_succ]
  refine take_op (i := 7) (d := 8) (OP := Op.assign (Operand.tmp 24)) (T := 22) (v := ?vq8x) rfl rfl rfl rfl (by kernel_rfl) (by kernel_rfl) (by kernel_rfl) (fun _ _ _ h => h) (by rfl) ?hq8x hHeld ?rq8x
  case hq8x => (intro w' hSw; (try dsimp only at hSw); go_simp <;> with_reducible rfl)
  try simp only [Act.put, List.setIfInBounds_toArray, List.set_cons_zero, List.set_cons_succ]
  refine wpAnyH_done (by kernel_rfl) ?_ _
  obtain ⟨q0, q1, q2, q3⟩ := W0_cells B2.out
  have hne : (ofE cap u l0 l1 != ofE cap u l0 l1) = false := by simp
  clear hHeld hS0 hS1 hS2
  have hleft1 : Calls Try.prog 10 #[.slice m1 l0.length k1, .slice x0 l0.length c0] w2 fun e w3 => e = .returned (.bool true) ∧ Hid (Below (w.heap.size + 1) (W0 w cap u x0 x1 c0 c1 l0 l1) w3 ∧ Lent w3 w1.heap.size m2 k2 l1) :=
    (left_any m1 x0 k1 c0 _ l0 w2 M2.out.2 (r0.below (HW.out.trans (B2.out.mono (Nat.le_succ _)))) hl0).mono (fun e w3 h => ⟨h.1, left_first HB.out.1 B2.out M1.out M2.out.2 M2.out.1 h.2⟩)
  have hleft2 : ∀ w3, Hid (Below (w.heap.size + 1) (W0 w cap u x0 x1 c0 c1 l0 l1) w3 ∧ Lent w3 w1.heap.size m2 k2 l1) → Calls Try.prog 10 #[.slice m2 l1.length k2, .slice x1 l1.length c1] w3 fun e w4 => e = .returned (.bool true) ∧ Hid (Below (w.heap.size + 1) (W0 w cap u x0 x1 c0 c1 l0 l1) w4) :=
    fun w3 h3 => (left_any m2 x1 k2 c1 _ l1 w3 h3.out.2 (r1.below (HW.out.trans (h3.out.1.mono (Nat.le_succ _)))) hl1).mono (fun e w4 h => ⟨h.1, left_second (Nat.le_trans HB.out.1 b1'.out.size) h3.out.1 h3.out.2 h.2⟩)
  go_wp2_with (first
    | (go_at_call 8; refine (of_no cap u m1 m2 k1 k2 l0 l1 _ he).mono ?_; rintro e w3 ⟨rfl, rfl⟩)
    | (go_at_call 9; refine (rof_no cap u x0 x1 c0 c1 l0 l1 _ he).mono ?_; rintro e w4 ⟨rfl, rfl⟩)
    | (go_at_call 10; refine hleft1.mono ?_; clear hleft1; rintro e w3 ⟨rfl, B3⟩; obtain ⟨p0, p1, p2, p3⟩ := W0_cells B3.out.1))
  go_wp2_with (first
    | (go_at_call 10; refine (hleft2 w3 B3).mono ?_; clear hleft2; rintro e w4 ⟨rfl, B4⟩)
    | (go_at_call 11; refine (stands_nil none leave _ (.inl rfl)).mono ?_; rintro e w5 ⟨rfl, b5⟩; have B5 := hide ((HW.out.trans (B4.out.mono (Nat.le_succ _))).trans (b5.mono (Nat.le_trans HW.out.size B4.out.size))); clear b5))
  have HT := hide (And.intro hT hTl)
  clear r0 r1 n0 n1 hT hTl p0 p1 p2 p3 q0 q1 q2 q3 hne HB B1 B2 B3 B4 M1 M2 b1' he
  go_loopw [9, 11, 13] (fun a b i wr => ∃ k : Nat, k ≤ T.length ∧ a = .pointer none ∧ b = .pointer none ∧ i = .int .i64 k ∧ Below w.heap.size w wr) (fun _ _ i _ => T.length - (intOf i).toNat)
  case atStart => exact ⟨0, Nat.zero_le _, rfl, rfl, rfl, B5.out⟩
  case round =>
    obtain ⟨k, hk, rfl, rfl, rfl, hb⟩ := hrel
    clear B5
    by_cases hlt : k < T.length
    · obtain ⟨x, hx⟩ : ∃ x, T[k]? = some x := ⟨_, List.getElem?_eq_getElem hlt⟩
      obtain ⟨hT, hTl⟩ := HT.out
      obtain ⟨g, off, aj, cj, rfl, t1, t2, t3, tr, tn, tu, tl⟩ := (hT.below hb).at hx
      have hdo := does_nil (w := wr) x.kind x.n aj cj x.data tr tn (hTl x (List.mem_of_getElem? hx))
      have hki : (k : Int) < (T.length : Int) := by omega
      have hk0 : (0 : Int) ≤ (k : Int) := by omega
      have hdl : decide (k < T.length) = true := by simpa using hlt
      have Hb := hide hb
      clear hb hT hTl tr tn tu tl hx
      go_wp2_with (first
        | (go_at_call 12; refine hdo.mono ?_; clear hdo; rintro e w6 ⟨rfl, b6⟩)
        | (go_at_call 11; refine (stands_nil none leave _ (.inl rfl)).mono ?_; rintro e w7 ⟨rfl, b7⟩))
      go_roundw
      case rel => exact ⟨k + 1, by omega, rfl, rfl, by go_num, (Hb.out.trans (b6.mono Hb.out.size)).trans (b7.mono (Nat.le_trans Hb.out.size b6.size))⟩
      case measure => simp [intOf]; omega
    · obtain rfl : k = T.length := by omega
      have hdl : decide (T.length < T.length) = false := by simp
      go_wp2_with (go_at_call 6; refine (known_any _).mono ?_; rintro e w6 ⟨rfl, b6⟩)
      go_ret
      exact ⟨rfl, hb.trans (b6.mono hb.size)⟩
end
end Go.Proofs.Ytfaceimamipbpaa
