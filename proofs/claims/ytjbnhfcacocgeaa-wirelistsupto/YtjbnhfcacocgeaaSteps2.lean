/-
  THE WALK over one call of a script that reads a list of numbers.
-/
import Derived.Test.YtjbnhfcacocgeaaSteps
namespace Go.Proofs.Ytjbnhfcacocgeaa
open Go.RowKit
variable {T : Nat}

theorem readMany_left : ∀ (n : Nat) (l : List Int), (readMany n l).2.2.length ≤ l.length
  | 0, l => by simp [readMany]
  | n + 1, l => by
    have h1 := rnum_left l
    have h2 := readMany_left n (rnum l).2.2
    rw [readMany]
    split
    · simp only; omega
    · simpa using h1
theorem readMany_many : ∀ (n : Nat) (l : List Int), (readMany n l).1.length ≤ l.length
  | 0, l => by simp [readMany]
  | n + 1, l => by
    rw [readMany]
    split
    · rename_i h
      have h1 := rnum_len l h
      have h2 := readMany_many n (rnum l).2.2
      simp only [List.length_cons]; omega
    · simp
theorem rnums_left (most : Int) (l : List Int) : (rnums most l).2.2.length ≤ l.length ∧ (rnums most l).1.length ≤ l.length := by
  have h := rcount_left most l
  have h1 := readMany_left (rcount most l).1.toNat (rcount most l).2.2
  have h2 := readMany_many (rcount most l).1.toNat (rcount most l).2.2
  unfold rnums
  split
  · split
    · constructor <;> omega
    · simp
  · simp

theorem OwnQ.at {w : World} {B n cap k : Nat} {ao : Option Addr} {ns : List Nat} {x : Nat} (h : OwnQ w B (.slice ao n cap) ns) (hk : ns[k]? = some x) : ∃ g, ao = some ⟨g, 0, none⟩ ∧ w.cell? ⟨g, k, none⟩ = some (.int .u64 (x : Int)) := by
  have hlt := (List.getElem?_eq_some_iff.1 hk).1
  have h2 := h.2
  rcases h2 with ⟨_, h3⟩ | ⟨g, c, cur, h1, _⟩
  · omega
  · simp only [Value.slice.injEq] at h1
    obtain ⟨rfl, rfl, rfl⟩ := h1
    refine ⟨g, rfl, ?_⟩
    rw [World.ownsRow.cellAt h k (by omega)]
    simp [u64s, hk]

set_option maxHeartbeats 1000000 in
set_option maxRecDepth 100000 in
theorem step5 (B0 R S D : Nat) (most : Int) (LB l : List Int) (w : World) (h : Alike T B0 w R S D LB l) (hm : most ≤ 9223372036854775807) :
    Calls Try.prog 20 #[.pointer (some ⟨R, 0, none⟩), .pointer (some ⟨D, 0, none⟩), .agg #[.int .i64 5, .int .i64 most]] w fun e w' =>
      e = .returned (.bool true) ∧ ∃ l', Alike T B0 w' R S D LB l' ∧ Below B0 w w' := by
  have hal : ∀ o, Alike T B0 (w.alloc o) R S D LB l := fun o => by
    obtain ⟨h1, h2, h3, h4, h5, h6, h7, h8⟩ := h
    exact ⟨h1.kept (World.grownBy_alloc w o none) (by simp), h2.kept (World.grownBy_alloc w o none) (by simp), h3, by simp; omega, h5, h6, h7, h8⟩
  have hB : B0 ≤ w.heap.size := by obtain ⟨_, _, _, _, _, _, _, _⟩ := h; omega
  have hba : ∀ o, Below B0 w (w.alloc o) := fun o => (Below.refl _ _).alloc hB o
  have hle := rnums_left most l
  have hl8 := h.2.2.2.2.2.2.2
  have hSw : S ≤ w.heap.size := by obtain ⟨_, _, _, _, _, _, _, _⟩ := h; omega
  have hc1 : ∀ o, _ := fun o => takeQ_any R S most l (w.alloc o) (hal o).1 (by simp; omega) hm hl8
  unfold TakeQ at hc1
  have hc2 : 0 ≤ most → ∀ w1, Doc T w1 D LB l → _ := fun h0 w1 hd => dnums_any D most LB l w1 hd h0 hm
  have hneg : most < 0 → rnums most l = ([], 2, l) := rnums_neg
  have HA := hide hal
  have HB := hide hba
  have HN := hide hneg
  have hRD : R ≠ D := by obtain ⟨_, _, _, _, _, _, _, _⟩ := h; omega
  have hTR : T ≤ R := by obtain ⟨_, _, _, _, _, _, _, _⟩ := h; omega
  obtain ⟨_, _, hSD, hDw, hTB, hBR, hRS, _⟩ := h
  clear hal hba hneg
  generalize rnums most l = q at *
  obtain ⟨ns, er, l'⟩ := q
  simp only at *
  by_cases hm0 : most < 0
  · have hq := HN.out hm0
    simp only [Prod.mk.injEq] at hq
    obtain ⟨rfl, rfl, rfl⟩ := hq
    clear hc2
    go_enter Try.func20, Try.ntmps20
    go_wp2_with (first | (go_at_call 43; refine (hc1 _).mono ?_; rintro e w1 ⟨oa, ca, rfl, own1, hR1, hg1⟩; have hD1 := (HA.out _).2.1.kept hg1 (by intro k hk; cases hk; exact ⟨hRD, hTR⟩); obtain ⟨x0, x1⟩ := was_cells hg1 (by omega)) | (go_at_call 23; refine (num_any _ _).mono ?_; rintro e w3 ⟨rfl, rfl⟩))
    go_ret
    exact ⟨rfl, _, (HA.out _).after (HB.out _) hR1 hg1 hD1 (World.grownBy.refl _ _) (by omega)⟩
  · have hc2 := hc2 (by omega)
    go_enter Try.func20, Try.ntmps20
    go_wp2_with (first | (go_at_call 43; refine (hc1 _).mono ?_; rintro e w1 ⟨oa, ca, rfl, own1, hR1, hg1⟩; have hD1 := (HA.out _).2.1.kept hg1 (by intro k hk; cases hk; exact ⟨hRD, hTR⟩); obtain ⟨x0, x1⟩ := was_cells hg1 (by omega); have hs1 := hg1.size) | (go_at_call 44; refine (hc2 _ hD1).mono ?_; rintro e w2 ⟨ob, cb, rfl, own2, hD2, hg2⟩; have hs2 := hg2.size; obtain ⟨hA2, hB2⟩ := (HA.out _).after (HB.out _) hR1 hg1 hD2 hg2 hle.1) | (go_at_call 23; refine (num_any _ _).mono ?_; rintro e w3 ⟨rfl, rfl⟩))
    have own12 : OwnQ w2 (w.heap.size + 1) (.slice oa ns.length ca) ns := (OwnQ.kept own1 hg2 (by intro k hk; cases hk; simp; omega)).lift (by simp)
    go_loopw [28] (fun i wr => ∃ (k nq : Nat), k ≤ ns.length ∧ i = .int .i64 k ∧ wr = w2.drewN nq) (fun i _ => ns.length - (intOf i).toNat)
    case atStart => exact ⟨0, 0, by omega, rfl, rfl⟩
    case round =>
      obtain ⟨k, nq, hk, rfl, rfl⟩ := hrel
      by_cases hlt : k < ns.length
      · obtain ⟨x, hx⟩ : ∃ x, ns[k]? = some x := ⟨_, List.getElem?_eq_getElem hlt⟩
        obtain ⟨g, rfl, c1⟩ := own12.at hx
        obtain ⟨g', rfl, c2⟩ := OwnQ.at own2 hx
        have hki : (k : Int) < (ns.length : Int) := by omega
        clear hx
        go_wp2
        go_quiet (fail)
        go_wp2
        go_roundw
        case rel => exact ⟨k + 1, _, by omega, by go_num, rfl⟩
        case measure => simp [intOf]; omega
      · go_wp2
        go_ret
        exact ⟨rfl, l', hA2, ⟨hB2.os, hB2.tape, hB2.output, hB2.size, hB2.block⟩⟩

theorem step_any (B0 R S D : Nat) (kind most : Int) (LB l : List Int) (w : World) (h : Alike T B0 w R S D LB l) (hm : most ≤ 9223372036854775807) :
    Calls Try.prog 20 #[.pointer (some ⟨R, 0, none⟩), .pointer (some ⟨D, 0, none⟩), .agg #[.int .i64 kind, .int .i64 most]] w fun e w' =>
      e = .returned (.bool true) ∧ ∃ l', Alike T B0 w' R S D LB l' ∧ Below B0 w w' := by
  by_cases h1 : kind = 1
  · subst h1; exact step1 B0 R S D most LB l w h
  by_cases h2 : kind = 2
  · subst h2; exact step2 B0 R S D most LB l w h
  by_cases h3 : kind = 3
  · subst h3; exact step3 B0 R S D most LB l w h
  by_cases h4 : kind = 4
  · subst h4; exact step4 B0 R S D most LB l w h hm
  by_cases h5 : kind = 5
  · subst h5; exact step5 B0 R S D most LB l w h hm
  · exact step0 B0 R S D kind most LB l w h (by simp [h1]) (by simp [h2]) (by simp [h3]) (by simp [h4]) (by simp [h5])
end Go.Proofs.Ytjbnhfcacocgeaa
