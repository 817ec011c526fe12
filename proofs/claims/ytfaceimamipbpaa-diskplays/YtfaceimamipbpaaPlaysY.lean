/-
  WALKS over DiskPlays: where Of makes a disk, given what 'stands' answers.
-/
import Derived.Test.YtfaceimamipbpaaPlays
namespace Go.Proofs.Ytfaceimamipbpaa
open Go.RowKit
set_option linter.unusedSimpArgs false

/-- What 'stands' answers where both disks are there. -/
def Stands : Prop := ∀ (B : Nat) (X : Nat → Prop) (w : World) (D R : Nat) (cap : Int) (beg : St) (log : List Wr) (leave : Int), Twin B X w D R cap beg log log → log.length < 1000000 →
  Calls Try.prog 11 #[.pointer (some ⟨D, 0, none⟩), .pointer (some ⟨R, 0, none⟩), .int .i64 leave] w fun e w' => e = .returned (.bool true) ∧ Below w.heap.size w w'

abbrev Xm (m1 m2 : Option Addr) (k1 k2 : Nat) (l0 l1 : List Int) : Nat → Prop := fun k => Value.ownBlock (.slice m1 l0.length k1) = some k ∨ Value.ownBlock (.slice m2 l1.length k2) = some k

section
variable {w : World} {cap u : Int} {x0 x1 so : Option Addr} {c0 c1 sc : Nat} {l0 l1 : List Int} {T : List Stp} {leave : Int}
set_option maxHeartbeats 2000000 in
set_option maxRecDepth 100000 in
theorem plays_yes (hst : Stands) (he : ofE cap u l0 l1 = 0) (hns : T.length ≤ 60) (r0 : Rd w x0 l0) (r1 : Rd w x1 l1) (n0 : x0 = none → c0 = 0) (n1 : x1 = none → c1 = 0) (u0 : U8 l0) (u1 : U8 l1) (hl0 : l0.length ≤ 140737488351232) (hl1 : l1.length ≤ 140737488351232) (hT : StepsAt w so T) (hTl : ∀ x ∈ T, x.data.length ≤ 140737488351232) :
    Calls Try.prog 3 #[.agg #[.int .i64 cap, .int .i64 u, .slice x0 l0.length c0, .slice x1 l1.length c1], .slice so T.length sc, .int .i64 leave] w fun e w' => e = .returned (.bool true) ∧ Below w.heap.size w w' := by
  have HW : Hid (Below w.heap.size w (W0 w cap u x0 x1 c0 c1 l0 l1)) := hide ((Below.refl _ w).alloc (Nat.le_refl _) _)
  have hz : (W0 w cap u x0 x1 c0 c1 l0 l1).drew.heap.size = w.heap.size + 1 := by simp [World.drew]
  have HB := hide (And.intro (show w.heap.size + 1 ≤ (W0 w cap u x0 x1 c0 c1 l0 l1).drew.heap.size by omega) (Below.refl (w.heap.size + 1) (W0 w cap u x0 x1 c0 c1 l0 l1)).drew)
  have hS0 : (W0 w cap u x0 x1 c0 c1 l0 l1).drew.cell? ⟨w.heap.size, 2, none⟩ = some (.slice x0 l0.length c0) ∧ (W0 w cap u x0 x1 c0 c1 l0 l1).drew.cell? ⟨w.heap.size, 3, none⟩ = some (.slice x1 l1.length c1) := (W0_cells HB.out.2).2.2
  have hL1 := lent_any x0 c0 l0 (W0 w cap u x0 x1 c0 c1 l0 l1).drew (r0.below (HW.out.trans (HB.out.2.mono (Nat.le_succ _)))) n0 hl0
  have hd0 : decide ((60 : Int) < (T.length : Int)) = false := by simp; omega
  have hd1 : decide (60 < T.length) = false := by simp; omega
  go_enter Try.func3, Try.ntmps3
  go_wp2
  refine wp_region_held_drew (S := (fun w' => w'.cell? ⟨w.heap.size, 2, none⟩ = some (.slice x0 l0.length c0) ∧ w'.cell? ⟨w.heap.size, 3, none⟩ = some (.slice x1 l1.length c1))) (by kernel_rfl) (by exact hS0) (fun hHeld => ?_)
  try dsimp only at hHeld
  refine take_op (i := 0) (d := 19) (OP := Op.fieldAddr 24 (Operand.tmp 3) 2) (T := 0) (v := ?vq1x) rfl rfl rfl rfl (by kernel_rfl) (by kernel_rfl) (by kernel_rfl) (fun _ _ _ h => h) (by rfl) ?hq1x hHeld ?rq1x
  case hq1x => (intro w' hSw; (try dsimp only at hSw); go_simp <;> with_reducible rfl)
  try simp only [Act.put, List.setIfInBounds_toArray, List.set_cons_zero, List.set_cons_succ]
  refine take_op (i := 1) (d := 20) (OP := Op.load 22 (Operand.tmp 19)) (T := 22) (v := ?vq2x) rfl rfl rfl rfl (by kernel_rfl) (by kernel_rfl) (by kernel_rfl) (fun _ _ _ h => h) (by rfl) ?hq2x hHeld ?rq2x
  case hq2x => (intro w' hSw; (try dsimp only at hSw); go_simp <;> with_reducible rfl)
  try simp only [Act.put, List.setIfInBounds_toArray, List.set_cons_zero, List.set_cons_succ]
  refine take_op (i := 3) (d := 22) (OP := Op.fieldAddr 24 (Operand.tmp 3) 3) (T := 0) (v := ?vq3x) rfl rfl rfl rfl (by kernel_rfl) (by kernel_rfl) (by kernel_rfl) (fun _ _ _ h => h) (by rfl) ?hq3x hHeld ?rq3x
  case hq3x => (intro w' hSw; (try dsimp only at hSw); go_simp <;> with_reducible rfl)
  try simp only [Act.put, List.setIfInBounds_toArray, List.set_cons_zero, List.set_cons_succ]
  refine take_op (i := 4) (d := 23) (OP := Op.load 22 (Operand.tmp 22)) (T := 22) (v := ?vq4x) rfl rfl rfl rfl (by kernel_rfl) (by kernel_rfl) (by kernel_rfl) (fun _ _ _ h => h) (by rfl) ?hq4x hHeld ?rq4x
  case hq4x => (intro w' hSw; (try dsimp only at hSw); go_simp <;> with_reducible rfl)
  try simp only [Act.put, List.setIfInBounds_toArray, List.set_cons_zero, List.set_cons_succ]
  refine call_op (i := 2) (d := 21) (OP := Op.call { callee := Callee.value (Operand.func 7), args := #[Operand.tmp 20], argTypes := #[22] }) (T := 22) (f := 7) (args := #[.slice x0 l0.length c0]) rfl rfl rfl rfl (by kernel_rfl) (by rfl) (by go_simp) ?_
  refine (hL1).mono ?_
  rintro e w1 ⟨m1, k1, rfl, hM1, b1⟩
  have hS1 : w1.cell? ⟨w.heap.size, 2, none⟩ = some (.slice x0 l0.length c0) ∧ w1.cell? ⟨w.heap.size, 3, none⟩ = some (.slice x1 l1.length c1) := ⟨(b1.cell (World.block_lt_of_cell? _ _ hHeld.1)).trans hHeld.1, (b1.cell (World.block_lt_of_cell? _ _ hHeld.2)).trans hHeld.2⟩
  have B1 := hide (HB.out.2.trans (b1.mono HB.out.1))
  have M1 := hide hM1
  have b1' := hide b1
  clear hM1 b1 hL1
  refine ⟨_, rfl, hS1, ?_⟩
  replace hHeld := hS1
  try simp only [Act.put, List.setIfInBounds_toArray, List.set_cons_zero, List.set_cons_succ]
  refine call_op (i := 5) (d := 24) (OP := Op.call { callee := Callee.value (Operand.func 7), args := #[Operand.tmp 23], argTypes := #[22] }) (T := 22) (f := 7) (args := #[.slice x1 l1.length c1]) rfl rfl rfl rfl (by kernel_rfl) (by rfl) (by go_simp) ?_
  refine ((lent_any x1 c1 l1 w1 (r1.below (HW.out.trans (B1.out.mono (Nat.le_succ _)))) n1 hl1)).mono ?_
  rintro e w2 ⟨m2, k2, rfl, hM2, b2⟩
  have hS2 : w2.cell? ⟨w.heap.size, 2, none⟩ = some (.slice x0 l0.length c0) ∧ w2.cell? ⟨w.heap.size, 3, none⟩ = some (.slice x1 l1.length c1) := ⟨(b2.cell (World.block_lt_of_cell? _ _ hHeld.1)).trans hHeld.1, (b2.cell (World.block_lt_of_cell? _ _ hHeld.2)).trans hHeld.2⟩
  have B2 := hide (B1.out.trans (b2.mono (Nat.le_trans HB.out.1 b1'.out.size)))
  have M2 := hide (And.intro hM2 (M1.out.below b2))
  clear hM2 b2
  refine ⟨_, rfl, hS2, ?_⟩
  replace hHeld := hS2
  try simp only [Act.put, List.setIfInBounds_toArray, List.set_cons_zero, List.set_cons_succ]
  refine take_op (i := 6) (d := 7) (OP := Op.assign (Operand.tmp 21)) (T := 22) (v := ?vq7x) rfl rfl rfl rfl (by kernel_rfl) (by kernel_rfl) (by kernel_rfl) (fun _ _ _ h => h) (by rfl) ?hq7x hHeld ?rq7x
  case hq7x => (intro w' hSw; (try dsimp only at hSw); go_simp <;> with_reducible rfl)
  try simp only [Act.put, List.setIfInBounds_toArray, List.set_cons_zero, List.set_cons_succ]
  refine take_op (i := 7) (d := 8) (OP := Op.assign (Operand.tmp 24)) (T := 22) (v := ?vq8x) rfl rfl rfl rfl (by kernel_rfl) (by kernel_rfl) (by kernel_rfl) (fun _ _ _ h => h) (by rfl) ?hq8x hHeld ?rq8x
  case hq8x => (intro w' hSw; (try dsimp only at hSw); go_simp <;> with_reducible rfl)
  try simp only [Act.put, List.setIfInBounds_toArray, List.set_cons_zero, List.set_cons_succ]
  refine wpAnyH_done (by kernel_rfl) ?_ _
  obtain ⟨q0, q1, q2, q3⟩ := W0_cells B2.out
  have hne : (ofE cap u l0 l1 != ofE cap u l0 l1) = false := by simp
  clear hHeld hS0 hS1 hS2
  have hof := of_yes cap u m1 m2 k1 k2 l0 l1 w2 he M2.out.2.own.rd M2.out.1.own.rd (by obtain ⟨g, rfl, _⟩ := M2.out.2.mark; simp) (by obtain ⟨g, rfl, _⟩ := M2.out.1.mark; simp) u0 u1
  have hrof : ∀ w3, Hid (Below w2.heap.size w2 w3) → _ := fun w3 h3 => rof_yes cap u x0 x1 c0 c1 l0 l1 w3 he (r0.below ((HW.out.trans (B2.out.mono (Nat.le_succ _))).trans (h3.out.mono (Nat.le_trans HW.out.size B2.out.size)))) (r1.below ((HW.out.trans (B2.out.mono (Nat.le_succ _))).trans (h3.out.mono (Nat.le_trans HW.out.size B2.out.size)))) n0 n1 u0 u1
  have hs2 : w.heap.size + 1 ≤ w2.heap.size := Nat.le_trans (by simp) B2.out.size
  have hXm : ∀ k, Xm m1 m2 k1 k2 l0 l1 k → k < w2.heap.size := by
    obtain ⟨g, rfl, _, hg, hg2⟩ := M2.out.2.mark
    obtain ⟨g', rfl, _, hg', hg2'⟩ := M2.out.1.mark
    rintro k (q | q) <;> simp [Value.ownBlock] at q <;> omega
  have htw : ∀ w3 w4 D Fd Gd R Fr Gr, PD Fd Gd w3 D cap ⟨l0, l1, u⟩ [] → (∀ k, Fd k → w2.heap.size ≤ k) → (∀ k, Gd k → w2.heap.size ≤ k) → Below w2.heap.size w2 w3 → RD Fr Gr w4 R cap ⟨l0, l1, u⟩ [] → (∀ k, Fr k → w3.heap.size ≤ k) → (∀ k, Gr k → w3.heap.size ≤ k) → Below w3.heap.size w3 w4 →
      Hid (Twin w.heap.size (Xm m1 m2 k1 k2 l0 l1) w4 D R cap ⟨l0, l1, u⟩ [] [] ∧ Below (w.heap.size + 1) (W0 w cap u x0 x1 c0 c1 l0 l1) w4 ∧ Lent w4 w1.heap.size m2 k2 l1 ∧ Lent w4 (W0 w cap u x0 x1 c0 c1 l0 l1).drew.heap.size m1 k1 l0) := by
    intro w3 w4 D Fd Gd R Fr Gr p f1 f2 b3 r f3 f4 b4
    have s3 := b3.size
    have uF := p.uF; have uG := p.uG
    refine hide ⟨⟨Fd, Gd, Fr, Gr, p.below b4, r, ?_, ?_, ?_, ?_, ?_⟩, (B2.out.trans (b3.mono hs2)).trans (b4.mono (by omega)), (M2.out.1.below b3).below b4, (M2.out.2.below b3).below b4⟩
    · intro k q1 q2; have := uF k q1; have := f3 k q2; omega
    · intro k q1 q2; have := uF k q1; have := f4 k q2; omega
    · intro k q1 q2; have := uG k q2; have := f3 k q1; omega
    · rintro k (q | q)
      · have := f1 k q; omega
      · have := f3 k q; omega
    · rintro k (q | q | q | q) x
      · have := f1 k q; have := hXm k x; omega
      · have := f2 k q; have := hXm k x; omega
      · have := f3 k q; have := hXm k x; omega
      · have := f4 k q; have := hXm k x; omega
  have hleft1 : ∀ w4, Below (w.heap.size + 1) (W0 w cap u x0 x1 c0 c1 l0 l1) w4 → Lent w4 (W0 w cap u x0 x1 c0 c1 l0 l1).drew.heap.size m1 k1 l0 → Lent w4 w1.heap.size m2 k2 l1 → Calls Try.prog 10 #[.slice m1 l0.length k1, .slice x0 l0.length c0] w4 fun e w5 => e = .returned (.bool true) ∧ Hid (Below (w.heap.size + 1) (W0 w cap u x0 x1 c0 c1 l0 l1) w5 ∧ Lent w5 w1.heap.size m2 k2 l1) ∧ Hid (Only (Xm m1 m2 k1 k2 l0 l1) w4 w5) :=
    fun w4 a1 a2 a3 => (left_any m1 x0 k1 c0 _ l0 w4 a2 (r0.below (HW.out.trans (a1.mono (Nat.le_succ _)))) hl0).mono (fun e w5 h => ⟨h.1, left_first HB.out.1 a1 M1.out a2 a3 h.2, hide (h.2.mono (fun _ _ q => .inl q))⟩)
  have hleft2 : ∀ w5, Hid (Below (w.heap.size + 1) (W0 w cap u x0 x1 c0 c1 l0 l1) w5 ∧ Lent w5 w1.heap.size m2 k2 l1) → Calls Try.prog 10 #[.slice m2 l1.length k2, .slice x1 l1.length c1] w5 fun e w6 => e = .returned (.bool true) ∧ Hid (Below (w.heap.size + 1) (W0 w cap u x0 x1 c0 c1 l0 l1) w6) ∧ Hid (Only (Xm m1 m2 k1 k2 l0 l1) w5 w6) :=
    fun w5 h5 => (left_any m2 x1 k2 c1 _ l1 w5 h5.out.2 (r1.below (HW.out.trans (h5.out.1.mono (Nat.le_succ _)))) hl1).mono (fun e w6 h => ⟨h.1, left_second (Nat.le_trans HB.out.1 b1'.out.size) h5.out.1 h5.out.2 h.2, hide (h.2.mono (fun _ _ q => .inr q))⟩)
  go_wp2_with (first
    | (go_at_call 8; refine hof.mono ?_; clear hof; rintro e w3 ⟨D, Fd, Gd, rfl, pD, f1, f2, b3⟩; obtain ⟨q0, q1, q2, q3⟩ := W0_cells (B2.out.trans (b3.mono hs2)))
    | (go_at_call 9; refine (hrof w3 (hide b3)).mono ?_; clear hrof; rintro e w4 ⟨R, Fr, Gr, rfl, pR, f3, f4, b4⟩; have H4 := htw w3 w4 D Fd Gd R Fr Gr pD f1 f2 b3 pR f3 f4 b4; clear htw pD f1 f2 b3 pR f3 f4 b4; obtain ⟨q0, q1, q2, q3⟩ := W0_cells H4.out.2.1)
    | (go_at_call 10; refine (hleft1 w4 H4.out.2.1 H4.out.2.2.2 H4.out.2.2.1).mono ?_; clear hleft1; rintro e w5 ⟨rfl, B5, O5⟩; obtain ⟨p0, p1, p2, p3⟩ := W0_cells B5.out.1))
  go_wp2_with (first
    | (go_at_call 10; refine (hleft2 w5 B5).mono ?_; clear hleft2; rintro e w6 ⟨rfl, B6, O6⟩; have T6 := hide ((H4.out.1.only O5.out).only O6.out))
    | (go_at_call 11; refine (hst _ _ _ _ _ _ _ _ leave T6.out (by simp)).mono ?_; rintro e w7 ⟨rfl, b7⟩; have B7 := hide (And.intro ((HW.out.trans (B6.out.mono (Nat.le_succ _))).trans (b7.mono (Nat.le_trans HW.out.size B6.out.size))) (T6.out.below b7)); clear b7))
  have HT := hide (And.intro hT hTl)
  clear r0 r1 n0 n1 hT hTl p0 p1 p2 p3 q0 q1 q2 q3 hne HB B1 B2 B5 B6 O5 O6 T6 H4 M1 M2 b1' he hXm hs2
  go_loopw [9, 11, 13] (fun a b i wr => ∃ (k D R : Nat) (log : List Wr), k ≤ T.length ∧ log.length ≤ k ∧ a = .pointer (some ⟨D, 0, none⟩) ∧ b = .pointer (some ⟨R, 0, none⟩) ∧ i = .int .i64 k ∧ Below w.heap.size w wr ∧ Twin w.heap.size (fun _ => False) wr D R cap ⟨l0, l1, u⟩ log log) (fun _ _ i _ => T.length - (intOf i).toNat)
  case atStart => exact ⟨0, D, R, [], Nat.zero_le _, Nat.le_refl _, rfl, rfl, rfl, B7.out.1, B7.out.2.free⟩
  case round =>
    obtain ⟨k, D', R', log, hk, hlk, rfl, rfl, rfl, hb, ht⟩ := hrel
    clear B7
    by_cases hlt : k < T.length
    · obtain ⟨x, hx⟩ : ∃ x, T[k]? = some x := ⟨_, List.getElem?_eq_getElem hlt⟩
      obtain ⟨hT, hTl⟩ := HT.out
      obtain ⟨g, off, aj, cj, rfl, t1, t2, t3, tr, tn, tu, tl⟩ := (hT.below hb).at hx
      have hrr : ∀ w', Below w.heap.size wr w' → Rd w' aj x.data := fun w' hw' => by
        obtain ⟨g', off', aj', cj', e0, e1, e2, e3, er, _⟩ := hT.at hx
        cases e0
        have := (hb.cell (World.block_lt_of_cell? w _ e3)).trans e3
        rw [this] at t3
        cases t3
        exact er.below (hb.trans hw')
      have hdo := does_any ht x.kind x.n aj cj x.data hrr tn tu (hTl x (List.mem_of_getElem? hx)) (by omega)
      have hki : (k : Int) < (T.length : Int) := by omega
      have hk0 : (0 : Int) ≤ (k : Int) := by omega
      have hdl : decide (k < T.length) = true := by simpa using hlt
      have Hb := hide (And.intro hb ht)
      clear hb ht hT hTl tr tn tu tl hx hrr
      go_wp2_with (first
        | (go_at_call 12; refine hdo.mono ?_; clear hdo; rintro e w8 ⟨D8, R8, log8, rfl, t8, hl8, b8⟩; have H8 := hide (And.intro t8 b8); clear t8 b8)
        | (go_at_call 11; refine (hst _ _ _ _ _ _ _ _ leave H8.out.1 (by omega)).mono ?_; rintro e w9 ⟨rfl, b9⟩))
      go_roundw
      case rel => exact ⟨k + 1, D8, R8, log8, by omega, by omega, rfl, rfl, by go_num, (Hb.out.1.trans H8.out.2).trans (b9.mono H8.out.1.size), H8.out.1.below b9⟩
      case measure => simp [intOf]; omega
    · obtain rfl : k = T.length := by omega
      have hdl : decide (T.length < T.length) = false := by simp
      go_wp2_with (go_at_call 6; refine (known_any _).mono ?_; rintro e w6 ⟨rfl, b6⟩)
      go_ret
      exact ⟨rfl, hb.trans (b6.mono hb.size)⟩
end
end Go.Proofs.Ytfaceimamipbpaa
