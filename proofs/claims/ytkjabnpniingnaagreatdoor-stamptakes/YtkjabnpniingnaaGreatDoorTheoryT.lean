/-
  THEORYT: what is taken out of bytes, plainly: the program and the document take just the forms.
-/
import Derived.Test.YtkjabnpniingnaaGreatDoorTheory6
import Derived.Test.YtkjabnpniingnaaGreatDoorTakenBN
import Derived.Test.YtkjabnpniingnaaGreatDoorDocS
namespace Go.Proofs.YtkjabnpniingnaaGreatDoor
open Go.RowKit Go.Shelf
set_option linter.unusedSimpArgs false

theorem rnum_back {l : List Int} (h8 : ∀ y ∈ l, 0 ≤ y ∧ y ≤ 255) (h : (rnum l).2.1 = 0) : l = Plain.numL (rnum l).1 ++ (rnum l).2.2 := by
  unfold rnum at h ⊢
  cases hr : Plain.readN 0 0 l with
  | none => rw [hr] at h; simp at h
  | some p =>
    obtain ⟨n, k⟩ := p
    obtain ⟨m, e1, _, _, _, _, e2, _⟩ := Plain.readN_spec l 0 0 n k (by omega) (by simp) h8 hr
    simp at e1 e2
    subst e1
    show l = Plain.numL n ++ l.drop k
    rw [← e2, List.take_append_drop]
theorem up_back {m : Nat} {l : List Int} {e : Int} (h8 : ∀ y ∈ l, 0 ≤ y ∧ y ≤ 255) (h : (upP m l e).2.2 = 0) : e = 0 ∧ l = Plain.numL (upP m l e).1 ++ (upP m l e).2.1 := by
  unfold upP at h ⊢
  by_cases he : e ≠ 0
  · rw [if_pos he] at h; exact absurd h he
  · rw [if_neg he] at h ⊢
    by_cases hm : m < (rnum l).1
    · rw [if_pos hm] at h; exact absurd h (by show (4 : Int) ≠ 0; decide)
    · rw [if_neg hm] at h ⊢
      exact ⟨by omega, rnum_back h8 h⟩
theorem str_size (bs : List Int) : (strOfNums bs).size = bs.length := strOfNums_size bs
theorem ints_str {bs : List Int} (h8 : ∀ y ∈ bs, 0 ≤ y ∧ y ≤ 255) : ints (strOfNums bs).data.toList = bs := by
  induction bs with
  | nil => simp [strOfNums, ints]
  | cons a t ih =>
    rw [show (strOfNums (a :: t)).data.toList = U (a :: t) from rfl, U_cons]
    unfold ints
    rw [List.map_cons]
    have h0 := h8 a (by simp)
    have := ih (fun y hy => h8 y (by simp [hy]))
    unfold ints at this
    rw [show U t = (strOfNums t).data.toList from rfl, this, UInt8.toNat_ofNat']
    congr 1
    omega
theorem bytes_back {m : Int} {l : List Int} (h8 : ∀ y ∈ l, 0 ≤ y ∧ y ≤ 255) (h : (rbytes m l).2.1 = 0) : l = Plain.numL (strOfNums (rbytes m l).1).size ++ (ints (strOfNums (rbytes m l).1).data.toList ++ (rbytes m l).2.2) := by
  unfold rbytes at h ⊢
  by_cases hc : (rcount m l).2.1 = 0
  · rw [if_pos hc] at h ⊢
    by_cases hl : ((rcount m l).2.2.length : Int) < (rcount m l).1
    · rw [if_pos hl] at h; simp at h
    · rw [if_neg hl]
      dsimp only
      unfold rcount at hc hl ⊢
      by_cases hm : m < 0
      · rw [if_pos hm] at hc; simp at hc
      · rw [if_neg hm] at hc hl ⊢
        cases hr : Plain.readN 0 0 l with
        | none => rw [hr] at hc; simp at hc
        | some p =>
          obtain ⟨n, k⟩ := p
          rw [hr] at hc hl
          dsimp only at hc hl ⊢
          by_cases hmn : m < (n : Int)
          · rw [if_pos hmn] at hc; simp at hc
          · rw [if_neg hmn] at hl ⊢
            dsimp only at hl ⊢
            have hb := rnum_back h8 (by unfold rnum; rw [hr])
            have e1 : (rnum l).1 = n := by unfold rnum; rw [hr]
            have e2 : (rnum l).2.2 = l.drop k := by unfold rnum; rw [hr]
            rw [e1, e2] at hb
            have hle : n ≤ (l.drop k).length := by omega
            have h8' : ∀ y ∈ (l.drop k).take n, 0 ≤ y ∧ y ≤ 255 := fun y hy => h8 y (List.mem_of_mem_drop (List.mem_of_mem_take hy))
            rw [Int.toNat_natCast, str_size, ints_str h8', List.length_take, Nat.min_eq_left hle, List.take_append_drop]
            exact hb
  · rw [if_neg hc] at h; exact absurd h hc
theorem lb_back {l : List Int} {e : Int} (h8 : ∀ y ∈ l, 0 ≤ y ∧ y ≤ 255) (h : (lbP l e).2.2 = 0) : e = 0 ∧ l = Plain.numL (lbP l e).1.size ++ (ints (lbP l e).1.data.toList ++ (lbP l e).2.1) := by
  unfold lbP at h ⊢
  by_cases he : e ≠ 0
  · rw [if_pos he] at h; exact absurd h he
  · rw [if_neg he] at h ⊢
    exact ⟨by omega, bytes_back h8 h⟩
theorem sub8 {a b l : List Int} (h : l = a ++ b) (h8 : ∀ y ∈ l, 0 ≤ y ∧ y ≤ 255) : ∀ y ∈ b, 0 ≤ y ∧ y ≤ 255 := fun y hy => h8 y (by rw [h]; simp [hy])
theorem br_back {l : List Int} {e : Int} (h8 : ∀ y ∈ l, 0 ≤ y ∧ y ≤ 255) (h : (brP l e).2.2 = 0) : e = 0 ∧ l = brL (brP l e).1.1 (brP l e).1.2 ++ (brP l e).2.1 := by
  have hup : (lbP (upP 7 l e).2.1 (upP 7 l e).2.2).2.2 = 0 := h
  have hl8 : ∀ y ∈ (upP 7 l e).2.1, 0 ≤ y ∧ y ≤ 255 := by
    intro y hy
    unfold upP at hy
    split at hy
    · exact h8 y hy
    · have hr : ∀ z ∈ (rnum l).2.2, 0 ≤ z ∧ z ≤ 255 := by
        unfold rnum
        cases Plain.readN 0 0 l with
        | none => exact h8
        | some p => exact fun z hz => h8 z (List.mem_of_mem_drop hz)
      split at hy
      · exact hr y hy
      · exact hr y hy
  obtain ⟨e1, e2⟩ := lb_back hl8 hup
  obtain ⟨e3, e4⟩ := up_back h8 e1
  refine ⟨e3, ?_⟩
  show l = brL ((upP 7 l e).1 : Nat) (lbP (upP 7 l e).2.1 (upP 7 l e).2.2).1 ++ (lbP (upP 7 l e).2.1 (upP 7 l e).2.2).2.1
  unfold brL
  rw [Int.toNat_natCast, List.append_assoc, List.append_assoc, ← e2]
  exact e4
theorem up8 {m : Nat} {l : List Int} {e : Int} (h8 : ∀ y ∈ l, 0 ≤ y ∧ y ≤ 255) : ∀ y ∈ (upP m l e).2.1, 0 ≤ y ∧ y ≤ 255 := by
  intro y hy
  unfold upP at hy
  split at hy
  · exact h8 y hy
  · have hr : ∀ z ∈ (rnum l).2.2, 0 ≤ z ∧ z ≤ 255 := by
      unfold rnum
      cases Plain.readN 0 0 l with
      | none => exact h8
      | some p => exact fun z hz => h8 z (List.mem_of_mem_drop hz)
    split at hy
    · exact hr y hy
    · exact hr y hy
theorem lb8 {l : List Int} {e : Int} (h8 : ∀ y ∈ l, 0 ≤ y ∧ y ≤ 255) : ∀ y ∈ (lbP l e).2.1, 0 ≤ y ∧ y ≤ 255 := by
  intro y hy
  unfold lbP at hy
  split at hy
  · exact h8 y hy
  · have hc : ∀ z ∈ (rcount 12 l).2.2, 0 ≤ z ∧ z ≤ 255 := by
      unfold rcount
      rw [if_neg (by decide)]
      cases Plain.readN 0 0 l with
      | none => exact h8
      | some p =>
        obtain ⟨n, k⟩ := p
        dsimp only
        split
        · exact h8
        · exact fun z hz => h8 z (List.mem_of_mem_drop hz)
    have : y ∈ (rbytes 12 l).2.2 := hy
    unfold rbytes at this
    split at this
    · split at this
      · exact h8 y this
      · exact hc y (List.mem_of_mem_drop this)
    · exact h8 y this
theorem br8 {l : List Int} {e : Int} (h8 : ∀ y ∈ l, 0 ≤ y ∧ y ≤ 255) : ∀ y ∈ (brP l e).2.1, 0 ≤ y ∧ y ≤ 255 := lb8 (up8 h8)
theorem nm_back {l : List Int} {e : Int} (h8 : ∀ y ∈ l, 0 ≤ y ∧ y ≤ 255) (h : (nmP l e).2.2 = 0) : e = 0 ∧ l = nmL (nmP l e).1.1 (nmP l e).1.2.1 (nmP l e).1.2.2 ++ (nmP l e).2.1 := by
  obtain ⟨e1, e2⟩ := up_back (br8 h8) (show (upP 4611686018427387904 (brP l e).2.1 (brP l e).2.2).2.2 = 0 from h)
  obtain ⟨e3, e4⟩ := br_back h8 e1
  refine ⟨e3, ?_⟩
  show l = nmL (brP l e).1.1 (brP l e).1.2 ((upP 4611686018427387904 (brP l e).2.1 (brP l e).2.2).1 : Nat) ++ (upP 4611686018427387904 (brP l e).2.1 (brP l e).2.2).2.1
  unfold nmL
  rw [Int.toNat_natCast, List.append_assoc, ← e2]
  exact e4
theorem nm8 {l : List Int} {e : Int} (h8 : ∀ y ∈ l, 0 ≤ y ∧ y ≤ 255) : ∀ y ∈ (nmP l e).2.1, 0 ≤ y ∧ y ≤ 255 := up8 (br8 h8)
theorem st_back {l : List Int} (h8 : ∀ y ∈ l, 0 ≤ y ∧ y ≤ 255) (h : (stP l 0).2.2 = 0) : l = stL (stP l 0).1.1 (stP l 0).1.2.1 (stP l 0).1.2.2.1 (stP l 0).1.2.2.2.1 (stP l 0).1.2.2.2.2 ++ (stP l 0).2.1 := by
  obtain ⟨e1, e2⟩ := up_back (m := 63) (nm8 (up8 h8)) (show (upP 63 (nmP (upP 4611686018427387904 l 0).2.1 (upP 4611686018427387904 l 0).2.2).2.1 (nmP (upP 4611686018427387904 l 0).2.1 (upP 4611686018427387904 l 0).2.2).2.2).2.2 = 0 from h)
  obtain ⟨e3, e4⟩ := nm_back (up8 h8) e1
  obtain ⟨_, e6⟩ := up_back h8 e3
  show l = stL ((upP 4611686018427387904 l 0).1 : Nat) (nmP (upP 4611686018427387904 l 0).2.1 (upP 4611686018427387904 l 0).2.2).1.1 (nmP (upP 4611686018427387904 l 0).2.1 (upP 4611686018427387904 l 0).2.2).1.2.1 (nmP (upP 4611686018427387904 l 0).2.1 (upP 4611686018427387904 l 0).2.2).1.2.2 ((upP 63 (nmP (upP 4611686018427387904 l 0).2.1 (upP 4611686018427387904 l 0).2.2).2.1 (nmP (upP 4611686018427387904 l 0).2.1 (upP 4611686018427387904 l 0).2.2).2.2).1 : Nat) ++ (upP 63 (nmP (upP 4611686018427387904 l 0).2.1 (upP 4611686018427387904 l 0).2.2).2.1 (nmP (upP 4611686018427387904 l 0).2.1 (upP 4611686018427387904 l 0).2.2).2.2).2.1
  unfold stL
  rw [Int.toNat_natCast, Int.toNat_natCast, List.append_assoc, List.append_assoc, ← e2, ← e4]
  exact e6
theorem tkB_form {r : Int} {l : ByteArray} (h : branchV r l = true) (rest : List Int) : tkBV (brL r l ++ rest) = true ∧ tkB0 (brL r l ++ rest) = r ∧ tkB1 (brL r l ++ rest) = l ∧ tkBL (brL r l ++ rest) = rest := by
  have hb := B_bounds h
  have hf : brP (brL r l ++ rest) 0 = ((r.toNat, l), rest, 0) := by
    unfold brL brP
    rw [List.append_assoc, List.append_assoc, upP_form 7 r.toNat _ (by omega) (by omega)]
    dsimp only
    rw [lbP_form l _ (by omega)]
  have hv : tkBV (brL r l ++ rest) = true := by
    unfold tkBV
    rw [hf]
    dsimp only
    rw [Int.toNat_of_nonneg (by omega), h]
    rfl
  unfold tkB0 tkB1 tkBL
  rw [hv, hf]
  refine ⟨rfl, ?_, rfl, rfl⟩
  show ((r.toNat : Nat) : Int) = r; omega
theorem tkN_form {r n : Int} {l : ByteArray} (h : nameV r l n = true) (rest : List Int) : tkNV (nmL r l n ++ rest) = true ∧ tkN0 (nmL r l n ++ rest) = r ∧ tkN1 (nmL r l n ++ rest) = l ∧ tkN2 (nmL r l n ++ rest) = n ∧ tkNL (nmL r l n ++ rest) = rest := by
  have hb := N_bounds h
  have hf : nmP (nmL r l n ++ rest) 0 = ((r.toNat, l, n.toNat), rest, 0) := by
    unfold nmL brL nmP brP
    rw [List.append_assoc, List.append_assoc, List.append_assoc, upP_form 7 r.toNat _ (by omega) (by omega)]
    dsimp only
    rw [lbP_form l _ (by omega)]
    dsimp only
    rw [upP_form 4611686018427387904 n.toNat _ (by omega) (by omega)]
  have hv : tkNV (nmL r l n ++ rest) = true := by
    unfold tkNV
    rw [hf]
    dsimp only
    rw [Int.toNat_of_nonneg (by omega), Int.toNat_of_nonneg (by omega), h]
    rfl
  unfold tkN0 tkN1 tkN2 tkNL
  rw [hv, hf]
  refine ⟨rfl, ?_, rfl, ?_, rfl⟩
  · show ((r.toNat : Nat) : Int) = r; omega
  · show ((n.toNat : Nat) : Int) = n; omega
theorem tkB_back {l : List Int} (h8 : ∀ y ∈ l, 0 ≤ y ∧ y ≤ 255) (h : tkBV l = true) : branchV (tkB0 l) (tkB1 l) = true ∧ l = brL (tkB0 l) (tkB1 l) ++ tkBL l := by
  unfold tkB0 tkB1 tkBL
  rw [if_pos h, if_pos h, if_pos h]
  unfold tkBV at h
  simp only [Bool.and_eq_true, decide_eq_true_eq] at h
  exact ⟨h.2, (br_back h8 h.1).2⟩
theorem tkN_back {l : List Int} (h8 : ∀ y ∈ l, 0 ≤ y ∧ y ≤ 255) (h : tkNV l = true) : nameV (tkN0 l) (tkN1 l) (tkN2 l) = true ∧ l = nmL (tkN0 l) (tkN1 l) (tkN2 l) ++ tkNL l := by
  unfold tkN0 tkN1 tkN2 tkNL
  rw [if_pos h, if_pos h, if_pos h, if_pos h]
  unfold tkNV at h
  simp only [Bool.and_eq_true, decide_eq_true_eq] at h
  exact ⟨h.2, (nm_back h8 h.1).2⟩
theorem tkS_back {l : List Int} (h8 : ∀ y ∈ l, 0 ≤ y ∧ y ≤ 255) (h : tkSV l = true) : stampV (tkS0 l) (tkS1 l) (tkS2 l) (tkS3 l) (tkS4 l) = true ∧ l = stL (tkS0 l) (tkS1 l) (tkS2 l) (tkS3 l) (tkS4 l) ++ tkSL l := by
  unfold tkS0 tkS1 tkS2 tkS3 tkS4 tkSL
  rw [if_pos h, if_pos h, if_pos h, if_pos h, if_pos h, if_pos h]
  unfold tkSV at h
  simp only [Bool.and_eq_true, decide_eq_true_eq] at h
  exact ⟨h.2, st_back h8 h.1⟩

/-- The document's reading of forms. -/
theorem smP_form (m : Nat) (rest : List Int) (h : m ≤ 4611686018427387904) : smP (Plain.numL m ++ rest) = ((m : Int), rest) := by
  unfold smP
  rw [rnum_form m rest (by omega), if_neg (by rintro (h1 | h1) <;> simp at h1; omega)]
theorem dlP_form (l : ByteArray) (rest : List Int) (h : l.size ≤ 99) : dlP (Plain.numL l.size ++ (ints l.data.toList ++ rest)) = (l, rest) := by
  have hr := Plain.readN_form l.size 0 0 (ints l.data.toList ++ rest) (by omega) (by simp) (by omega) (by simp; omega)
  simp at hr
  have hc : rcount 99 (Plain.numL l.size ++ (ints l.data.toList ++ rest)) = ((l.size : Int), 0, ints l.data.toList ++ rest) := by
    unfold rcount
    rw [if_neg (by omega), hr]
    dsimp only
    rw [if_neg (by omega)]
    simp
  have hl := ints_size l
  unfold dlP rbytes
  rw [hc]
  dsimp only
  rw [if_pos rfl, if_neg (by rw [List.length_append]; omega)]
  dsimp only
  rw [Int.toNat_natCast, ← hl, List.take_left, List.drop_left, str_ints, ba_mk]
theorem dbP_form {r : Int} {l : ByteArray} (h : branchV r l = true) (rest : List Int) : dbP (brL r l ++ rest) = ((r, l), rest) := by
  have hb := B_bounds h
  unfold brL dbP
  rw [List.append_assoc, List.append_assoc, smP_form r.toNat _ (by omega)]
  dsimp only
  rw [dlP_form l _ (by omega), Int.toNat_of_nonneg (by omega)]
theorem dnP_form {r n : Int} {l : ByteArray} (h : nameV r l n = true) (rest : List Int) : dnP (nmL r l n ++ rest) = ((r, l, n), rest) := by
  have hb := N_bounds h
  unfold nmL dnP
  rw [List.append_assoc, dbP_form (name_parts h).1]
  dsimp only
  rw [smP_form n.toNat _ (by omega), Int.toNat_of_nonneg (by omega)]
def dsP (l : List Int) : (Int × Int × ByteArray × Int × Int) × List Int :=
  (((smP l).1, (dnP (smP l).2).1.1, (dnP (smP l).2).1.2.1, (dnP (smP l).2).1.2.2, (smP (dnP (smP l).2).2).1), (smP (dnP (smP l).2).2).2)
theorem dsP_form {g r n x : Int} {l : ByteArray} (h : stampV g r l n x = true) (rest : List Int) : dsP (stL g r l n x ++ rest) = ((g, r, l, n, x), rest) := by
  have hb := S_bounds h
  unfold stL dsP
  rw [List.append_assoc, List.append_assoc, smP_form g.toNat _ (by omega)]
  dsimp only
  rw [dnP_form (stamp_parts h).2.2.1]
  dsimp only
  rw [smP_form x.toNat _ (by omega), Int.toNat_of_nonneg (by omega), Int.toNat_of_nonneg (by omega)]
theorem take_form {a b l : List Int} (h : l = a ++ b) : l.take (l.length - b.length) = a := by
  rw [h, List.length_append, Nat.add_sub_cancel, List.take_left]
/-- The document takes just what the program takes. -/
theorem dB_eq {l : List Int} (h8 : ∀ y ∈ l, 0 ≤ y ∧ y ≤ 255) : (branchV (dbP l).1.1 (dbP l).1.2 && decide (l.take (l.length - (dbP l).2.length) = brL (dbP l).1.1 (dbP l).1.2)) = tkBV l ∧ (tkBV l = true → (dbP l).1.1 = tkB0 l ∧ (dbP l).1.2 = tkB1 l ∧ (dbP l).2 = tkBL l) := by
  by_cases h : tkBV l = true
  · obtain ⟨hv, hl⟩ := tkB_back h8 h
    have hd := dbP_form hv (tkBL l)
    rw [← hl] at hd
    refine ⟨?_, fun _ => by rw [hd]; exact ⟨rfl, rfl, rfl⟩⟩
    rw [h, hd]
    dsimp only
    rw [hv, take_form hl]
    simp
  · refine ⟨?_, fun h' => absurd h' h⟩
    rw [Bool.eq_false_iff.2 h]
    refine Bool.eq_false_iff.2 fun hd => h ?_
    simp only [Bool.and_eq_true, decide_eq_true_eq] at hd
    have := (tkB_form hd.1 (l.drop (l.length - (dbP l).2.length))).1
    rw [← hd.2, List.take_append_drop] at this
    exact this
theorem dN_eq {l : List Int} (h8 : ∀ y ∈ l, 0 ≤ y ∧ y ≤ 255) : (nameV (dnP l).1.1 (dnP l).1.2.1 (dnP l).1.2.2 && decide (l.take (l.length - (dnP l).2.length) = nmL (dnP l).1.1 (dnP l).1.2.1 (dnP l).1.2.2)) = tkNV l ∧ (tkNV l = true → (dnP l).1.1 = tkN0 l ∧ (dnP l).1.2.1 = tkN1 l ∧ (dnP l).1.2.2 = tkN2 l ∧ (dnP l).2 = tkNL l) := by
  by_cases h : tkNV l = true
  · obtain ⟨hv, hl⟩ := tkN_back h8 h
    have hd := dnP_form hv (tkNL l)
    rw [← hl] at hd
    refine ⟨?_, fun _ => by rw [hd]; exact ⟨rfl, rfl, rfl, rfl⟩⟩
    rw [h, hd]
    dsimp only
    rw [hv, take_form hl]
    simp
  · refine ⟨?_, fun h' => absurd h' h⟩
    rw [Bool.eq_false_iff.2 h]
    refine Bool.eq_false_iff.2 fun hd => h ?_
    simp only [Bool.and_eq_true, decide_eq_true_eq] at hd
    have := (tkN_form hd.1 (l.drop (l.length - (dnP l).2.length))).1
    rw [← hd.2, List.take_append_drop] at this
    exact this
theorem dS_eq {l : List Int} (h8 : ∀ y ∈ l, 0 ≤ y ∧ y ≤ 255) : (stampV (dsP l).1.1 (dsP l).1.2.1 (dsP l).1.2.2.1 (dsP l).1.2.2.2.1 (dsP l).1.2.2.2.2 && decide (l.take (l.length - (dsP l).2.length) = stL (dsP l).1.1 (dsP l).1.2.1 (dsP l).1.2.2.1 (dsP l).1.2.2.2.1 (dsP l).1.2.2.2.2)) = tkSV l ∧ (tkSV l = true → (dsP l).1.1 = tkS0 l ∧ (dsP l).1.2.1 = tkS1 l ∧ (dsP l).1.2.2.1 = tkS2 l ∧ (dsP l).1.2.2.2.1 = tkS3 l ∧ (dsP l).1.2.2.2.2 = tkS4 l ∧ (dsP l).2 = tkSL l) := by
  by_cases h : tkSV l = true
  · obtain ⟨hv, hl⟩ := tkS_back h8 h
    have hd := dsP_form hv (tkSL l)
    rw [← hl] at hd
    refine ⟨?_, fun _ => by rw [hd]; exact ⟨rfl, rfl, rfl, rfl, rfl, rfl⟩⟩
    rw [h, hd]
    dsimp only
    rw [hv, take_form hl]
    simp
  · refine ⟨?_, fun h' => absurd h' h⟩
    rw [Bool.eq_false_iff.2 h]
    refine Bool.eq_false_iff.2 fun hd => h ?_
    simp only [Bool.and_eq_true, decide_eq_true_eq] at hd
    have := (tkS_form hd.1 (l.drop (l.length - (dsP l).2.length))).1
    rw [← hd.2, List.take_append_drop] at this
    exact this
end Go.Proofs.YtkjabnpniingnaaGreatDoor
