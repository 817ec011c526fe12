/-
  THE WALK over one call of a script: the program's reader and the document's answer alike, and stay alike.
-/
import Derived.Test.YtjbnhfcacocgeaaDocN
import Derived.Test.YtjbnhfcacocgeaaSpoil
namespace Go.Proofs.Ytjbnhfcacocgeaa
open Go.RowKit
variable {T : Nat}

/-- Both readers stand before the same bytes. -/
def Alike (T B0 : Nat) (w : World) (R S D : Nat) (LB l : List Int) : Prop :=
  Rdr 73 w R S l ∧ Doc T w D LB l ∧ S ≤ D ∧ D < w.heap.size ∧ T ≤ B0 ∧ B0 ≤ R ∧ R < S ∧ l.length ≤ 1048576

theorem Alike.after {T B0 : Nat} {w0 w w1 w2 : World} {R S D : Nat} {LB l l' : List Int} (h : Alike T B0 w R S D LB l) (hb : Below B0 w0 w) (hR : Rdr 73 w1 R S l') (hg1 : w.grownBy w1 (some R)) (hD : Doc T w2 D LB l') (hg2 : w1.grownBy w2 (some D)) (hl : l'.length ≤ l.length) :
    Alike T B0 w2 R S D LB l' ∧ Below B0 w0 w2 := by
  obtain ⟨h1, h2, h3, h4, h5, h6, h7, h8⟩ := h
  have s1 := hg1.size
  have s2 := hg2.size
  refine ⟨⟨hR.kept hg2 (by intro k hk; cases hk; omega), hD, h3, by omega, h5, h6, h7, by omega⟩, ?_⟩
  have b1 := below_rdr hb hg1 (by omega) h6
  exact below_rdr b1 hg2 (by omega) (by omega)

theorem rnum_left (l : List Int) : (rnum l).2.2.length ≤ l.length := by
  rcases hx : Plain.readN 0 0 l with _ | ⟨n, k⟩
  · rw [rnum_none hx]; simp
  · rw [rnum_some hx]; simp
theorem rflag_left (l : List Int) : (rflag l).2.2.length ≤ l.length := by
  cases l with
  | nil => simp [rflag]
  | cons b r => by_cases h : 1 < b <;> simp [rflag, h]

theorem rnum_lt {w : World} {R S : Nat} {l : List Int} (hR : Rdr 73 w R S l) : (rnum l).1 < 18446744073709551616 := by
  rcases hx : Plain.readN 0 0 l with _ | ⟨n, k⟩
  · rw [rnum_none hx]; simp
  · rw [rnum_some hx]; exact (readN_lt hR hx).1

set_option maxHeartbeats 1000000 in
set_option maxRecDepth 100000 in
theorem step1 (B0 R S D : Nat) (most : Int) (LB l : List Int) (w : World) (h : Alike T B0 w R S D LB l) :
    Calls Try.prog 20 #[.pointer (some ⟨R, 0, none⟩), .pointer (some ⟨D, 0, none⟩), .agg #[.int .i64 1, .int .i64 most]] w fun e w' =>
      e = .returned (.bool true) ∧ ∃ l', Alike T B0 w' R S D LB l' ∧ Below B0 w w' := by
  have hal : ∀ o, Alike T B0 (w.alloc o) R S D LB l := fun o => by
    obtain ⟨h1, h2, h3, h4, h5, h6, h7, h8⟩ := h
    exact ⟨h1.kept (World.grownBy_alloc w o none) (by simp), h2.kept (World.grownBy_alloc w o none) (by simp), h3, by simp; omega, h5, h6, h7, h8⟩
  have hB : B0 ≤ w.heap.size := by obtain ⟨_, _, _, _, _, _, _, _⟩ := h; omega
  have hba : ∀ o, Below B0 w (w.alloc o) := fun o => (Below.refl _ _).alloc hB o
  have hle := rnum_left l
  have hc1 := fun o => rnumber_any R S l (w.alloc o) (hal o).1
  unfold NumPost at hc1
  have hc2 : ∀ w1, Doc T w1 D LB l → _ := fun w1 hd => dnumber_any D LB l w1 hd
  have HA := hide hal
  have HB := hide hba
  have hRD : R ≠ D := by obtain ⟨_, _, _, _, _, _, _, _⟩ := h; omega
  have hTR : T ≤ R := by obtain ⟨_, _, _, _, _, _, _, _⟩ := h; omega
  clear hal hba h
  generalize rnum l = q at *
  obtain ⟨n, er, l'⟩ := q
  simp only at *
  go_enter Try.func20, Try.ntmps20
  go_wp2_with (first | (go_at_call 25; refine (hc1 _).mono ?_; rintro e w1 ⟨rfl, hR1, hg1⟩; have hD1 := (HA.out _).2.1.kept hg1 (by intro k hk; cases hk; exact ⟨hRD, hTR⟩)) | (go_at_call 39; refine (hc2 _ hD1).mono ?_; rintro e w2 ⟨rfl, hD2, hg2⟩) | (go_at_call 23; refine (num_any _ _).mono ?_; rintro e w3 ⟨rfl, rfl⟩))
  go_ret
  exact ⟨rfl, l', (HA.out _).after (HB.out _) hR1 hg1 hD2 hg2 hle⟩
set_option maxHeartbeats 1000000 in
set_option maxRecDepth 100000 in
theorem step2 (B0 R S D : Nat) (most : Int) (LB l : List Int) (w : World) (h : Alike T B0 w R S D LB l) :
    Calls Try.prog 20 #[.pointer (some ⟨R, 0, none⟩), .pointer (some ⟨D, 0, none⟩), .agg #[.int .i64 2, .int .i64 most]] w fun e w' =>
      e = .returned (.bool true) ∧ ∃ l', Alike T B0 w' R S D LB l' ∧ Below B0 w w' := by
  have hal : ∀ o, Alike T B0 (w.alloc o) R S D LB l := fun o => by
    obtain ⟨h1, h2, h3, h4, h5, h6, h7, h8⟩ := h
    exact ⟨h1.kept (World.grownBy_alloc w o none) (by simp), h2.kept (World.grownBy_alloc w o none) (by simp), h3, by simp; omega, h5, h6, h7, h8⟩
  have hB : B0 ≤ w.heap.size := by obtain ⟨_, _, _, _, _, _, _, _⟩ := h; omega
  have hba : ∀ o, Below B0 w (w.alloc o) := fun o => (Below.refl _ _).alloc hB o
  have hle := rnum_left l
  have hnl := rnum_lt h.1
  have hc1 := fun o => rsigned_any R S l (w.alloc o) (hal o).1 (rnum_lt (hal o).1)
  have hc2 : ∀ w1, Doc T w1 D LB l → _ := fun w1 hd => dsigned_any D LB l w1 hd hnl
  have HA := hide hal
  have HB := hide hba
  have hRD : R ≠ D := by obtain ⟨_, _, _, _, _, _, _, _⟩ := h; omega
  have hTR : T ≤ R := by obtain ⟨_, _, _, _, _, _, _, _⟩ := h; omega
  clear hal hba h
  generalize rnum l = q at *
  obtain ⟨n, er, l'⟩ := q
  simp only at *
  go_enter Try.func20, Try.ntmps20
  go_wp2_with (first | (go_at_call 26; refine (hc1 _).mono ?_; rintro e w1 ⟨rfl, hR1, hg1⟩; have hD1 := (HA.out _).2.1.kept hg1 (by intro k hk; cases hk; exact ⟨hRD, hTR⟩)) | (go_at_call 40; refine (hc2 _ hD1).mono ?_; rintro e w2 ⟨rfl, hD2, hg2⟩) | (go_at_call 23; refine (num_any _ _).mono ?_; rintro e w3 ⟨rfl, rfl⟩))
  go_ret
  exact ⟨rfl, l', (HA.out _).after (HB.out _) hR1 hg1 hD2 hg2 hle⟩
set_option maxHeartbeats 1000000 in
set_option maxRecDepth 100000 in
theorem step3 (B0 R S D : Nat) (most : Int) (LB l : List Int) (w : World) (h : Alike T B0 w R S D LB l) :
    Calls Try.prog 20 #[.pointer (some ⟨R, 0, none⟩), .pointer (some ⟨D, 0, none⟩), .agg #[.int .i64 3, .int .i64 most]] w fun e w' =>
      e = .returned (.bool true) ∧ ∃ l', Alike T B0 w' R S D LB l' ∧ Below B0 w w' := by
  have hal : ∀ o, Alike T B0 (w.alloc o) R S D LB l := fun o => by
    obtain ⟨h1, h2, h3, h4, h5, h6, h7, h8⟩ := h
    exact ⟨h1.kept (World.grownBy_alloc w o none) (by simp), h2.kept (World.grownBy_alloc w o none) (by simp), h3, by simp; omega, h5, h6, h7, h8⟩
  have hB : B0 ≤ w.heap.size := by obtain ⟨_, _, _, _, _, _, _, _⟩ := h; omega
  have hba : ∀ o, Below B0 w (w.alloc o) := fun o => (Below.refl _ _).alloc hB o
  have hle := rflag_left l
  have hc1 := fun o => rflag_any R S l (w.alloc o) (hal o).1
  have hc2 : ∀ w1, Doc T w1 D LB l → _ := fun w1 hd => dflag_any D LB l w1 hd
  have HA := hide hal
  have HB := hide hba
  have hRD : R ≠ D := by obtain ⟨_, _, _, _, _, _, _, _⟩ := h; omega
  have hTR : T ≤ R := by obtain ⟨_, _, _, _, _, _, _, _⟩ := h; omega
  clear hal hba h
  generalize rflag l = q at *
  obtain ⟨n, er, l'⟩ := q
  simp only at *
  go_enter Try.func20, Try.ntmps20
  go_wp2_with (first | (go_at_call 28; refine (hc1 _).mono ?_; rintro e w1 ⟨rfl, hR1, hg1⟩; have hD1 := (HA.out _).2.1.kept hg1 (by intro k hk; cases hk; exact ⟨hRD, hTR⟩)) | (go_at_call 41; refine (hc2 _ hD1).mono ?_; rintro e w2 ⟨rfl, hD2, hg2⟩) | (go_at_call 23; refine (num_any _ _).mono ?_; rintro e w3 ⟨rfl, rfl⟩))
  go_ret
  exact ⟨rfl, l', (HA.out _).after (HB.out _) hR1 hg1 hD2 hg2 hle⟩
set_option maxHeartbeats 1000000 in
set_option maxRecDepth 100000 in
theorem step0 (B0 R S D : Nat) (kind most : Int) (LB l : List Int) (w : World) (h : Alike T B0 w R S D LB l) (k1 : (kind == 1) = false) (k2 : (kind == 2) = false) (k3 : (kind == 3) = false) (k4 : (kind == 4) = false) (k5 : (kind == 5) = false) :
    Calls Try.prog 20 #[.pointer (some ⟨R, 0, none⟩), .pointer (some ⟨D, 0, none⟩), .agg #[.int .i64 kind, .int .i64 most]] w fun e w' =>
      e = .returned (.bool true) ∧ ∃ l', Alike T B0 w' R S D LB l' ∧ Below B0 w w' := by
  have hal : ∀ o, Alike T B0 (w.alloc o) R S D LB l := fun o => by
    obtain ⟨h1, h2, h3, h4, h5, h6, h7, h8⟩ := h
    exact ⟨h1.kept (World.grownBy_alloc w o none) (by simp), h2.kept (World.grownBy_alloc w o none) (by simp), h3, by simp; omega, h5, h6, h7, h8⟩
  have hB : B0 ≤ w.heap.size := by obtain ⟨_, _, _, _, _, _, _, _⟩ := h; omega
  have hba : ∀ o, Below B0 w (w.alloc o) := fun o => (Below.refl _ _).alloc hB o
  have HA := hide hal
  have HB := hide hba
  clear hal hba h
  go_enter Try.func20, Try.ntmps20
  go_wp2
  go_ret
  exact ⟨rfl, l, HA.out _, HB.out _⟩

theorem own_ne {ao : Option Addr} {n c : Nat} {row : Option Nat} (h : ∀ a, ao = some a → some a.block ≠ row) : Value.ownBlock (.slice ao n c) = none ∨ Value.ownBlock (.slice ao n c) ≠ row := by
  cases ao with
  | none => exact .inl rfl
  | some a => exact .inr (h a rfl)
theorem rbytes_neg {most : Int} {l : List Int} (h : most < 0) : rbytes most l = ([], 2, l) := by
  have : rcount most l = (0, 2, l) := by simp [rcount, h]
  simp [rbytes, this]
theorem rnums_neg {most : Int} {l : List Int} (h : most < 0) : rnums most l = ([], 2, l) := by
  have : rcount most l = (0, 2, l) := by simp [rcount, h]
  simp [rnums, this]
theorem rbytes_left (most : Int) (l : List Int) : (rbytes most l).2.2.length ≤ l.length ∧ (rbytes most l).1.length ≤ l.length := by
  have h := rcount_left most l
  unfold rbytes
  split
  · split
    · simp
    · simp; omega
  · simp

set_option maxHeartbeats 1000000 in
set_option maxRecDepth 100000 in
theorem step4 (B0 R S D : Nat) (most : Int) (LB l : List Int) (w : World) (h : Alike T B0 w R S D LB l) (hm : most ≤ 9223372036854775807) :
    Calls Try.prog 20 #[.pointer (some ⟨R, 0, none⟩), .pointer (some ⟨D, 0, none⟩), .agg #[.int .i64 4, .int .i64 most]] w fun e w' =>
      e = .returned (.bool true) ∧ ∃ l', Alike T B0 w' R S D LB l' ∧ Below B0 w w' := by
  have hal : ∀ o, Alike T B0 (w.alloc o) R S D LB l := fun o => by
    obtain ⟨h1, h2, h3, h4, h5, h6, h7, h8⟩ := h
    exact ⟨h1.kept (World.grownBy_alloc w o none) (by simp), h2.kept (World.grownBy_alloc w o none) (by simp), h3, by simp; omega, h5, h6, h7, h8⟩
  have hB : B0 ≤ w.heap.size := by obtain ⟨_, _, _, _, _, _, _, _⟩ := h; omega
  have hba : ∀ o, Below B0 w (w.alloc o) := fun o => (Below.refl _ _).alloc hB o
  have hle := rbytes_left most l
  have hl8 := h.2.2.2.2.2.2.2
  have hc1 := fun o => rbytes_any R S most l (w.alloc o) (hal o).1 hm (by omega)
  have hc2 : 0 ≤ most → ∀ w1, Doc T w1 D LB l → _ := fun h0 w1 hd => dbytes_any D most LB l w1 hd h0 hm
  have hneg : most < 0 → rbytes most l = ([], 2, l) := rbytes_neg
  have HA := hide hal
  have HB := hide hba
  have HN := hide hneg
  have hRD : R ≠ D := by obtain ⟨_, _, _, _, _, _, _, _⟩ := h; omega
  have hTR : T ≤ R := by obtain ⟨_, _, _, _, _, _, _, _⟩ := h; omega
  obtain ⟨_, _, hSD, hDw, hTB, hBR, hRS, _⟩ := h
  clear hal hba hneg
  generalize rbytes most l = q at *
  obtain ⟨y, er, l'⟩ := q
  simp only at *
  by_cases hm0 : most < 0
  · have hq := HN.out hm0
    simp only [Prod.mk.injEq] at hq
    obtain ⟨rfl, rfl, rfl⟩ := hq
    clear hc2
    go_enter Try.func20, Try.ntmps20
    go_wp2_with (first | (go_at_call 27; refine (hc1 _).mono ?_; rintro e w1 ⟨oa, ca, rfl, own1, nil1, hR1, hg1⟩; have hD1 := (HA.out _).2.1.kept hg1 (by intro k hk; cases hk; exact ⟨hRD, hTR⟩); obtain ⟨x0, x1⟩ := was_cells hg1 (by omega)) | (go_at_call 23; refine (num_any _ _).mono ?_; rintro e w3 ⟨rfl, rfl⟩))
    go_ret
    exact ⟨rfl, _, (HA.out _).after (HB.out _) hR1 hg1 hD1 (World.grownBy.refl _ _) (by omega)⟩
  · have hc2 := hc2 (by omega)
    go_enter Try.func20, Try.ntmps20
    go_wp2_with (first | (go_at_call 27; refine (hc1 _).mono ?_; rintro e w1 ⟨oa, ca, rfl, own1, nil1, hR1, hg1⟩; have hD1 := (HA.out _).2.1.kept hg1 (by intro k hk; cases hk; exact ⟨hRD, hTR⟩); obtain ⟨x0, x1⟩ := was_cells hg1 (by omega); have hs1 := hg1.size) | (go_at_call 42; refine (hc2 _ hD1).mono ?_; rintro e w2 ⟨ob, cb, rfl, own2, nil2, hD2, hg2⟩; have blk1 : ∀ a, oa = some a → some a.block ≠ some D := fun a ha e => by { have := (own1.blk a ha).1; simp at this e; omega }; have own12 := own1.kept hg2 (own_ne blk1); have cv1 := conv_rd (n := y.length) (cap := ca) own12.rd rfl; have cv2 := conv_rd (n := y.length) (cap := cb) own2.rd rfl; have hs2 := hg2.size; obtain ⟨hA2, hB2⟩ := (HA.out _).after (HB.out _) hR1 hg1 hD2 hg2 hle.1) | (go_at_call 23; refine (num_any _ _).mono ?_; rintro e w3 ⟨rfl, rfl⟩) | (go_at_call 17; refine (spoil_any oa ca _ y _ own12 (by omega) (by omega)).mono ?_; rintro e w4 ⟨rfl, hg4⟩))
    go_ret
    have hrow : ∀ k, Value.ownBlock (.slice oa y.length ca) = some k → w.heap.size + 1 ≤ k := fun k hk => by
      have := (World.ownsRow.lt own1 k hk).1
      simpa using this
    refine ⟨rfl, l', ?_⟩
    obtain ⟨a1, a2, a3, a4, a5, a6, a7, a8⟩ := hA2
    have hs4 := hg4.size
    refine ⟨⟨a1.kept hg4 (fun k hk => by have := hrow k hk; omega), a2.kept hg4 (fun k hk => by have := hrow k hk; omega), a3, by omega, a5, a6, a7, a8⟩, hB2.grown hg4 (by omega) (fun k hk => by have := hrow k hk; omega)⟩
end Go.Proofs.Ytjbnhfcacocgeaa
