/-
  DOTS: texts and their dots, plainly: a number's digits are read as that number, a text is cut at its first dot, at its last one, at all of them.
-/
import Derived.Test.YtkjabnpniingnaaGreatDoorParse
namespace Go.Proofs.YtkjabnpniingnaaGreatDoor
open Go.RowKit Go.Shelf
set_option linter.unusedSimpArgs false

def NoDot (l : List UInt8) : Prop := ∀ b ∈ l, b ≠ 46

theorem decDigits_byte (u : Nat) : ∀ b ∈ Lib.decDigits u, 48 ≤ b.toNat ∧ b.toNat ≤ 57 := by
  induction u using Nat.strongRecOn with
  | _ u ih =>
    intro b hb
    rw [Lib.decDigits] at hb
    split at hb
    next h =>
      simp only [List.mem_singleton] at hb
      subst hb
      rw [UInt8.toNat_ofNat']; omega
    next h =>
      rw [List.mem_append, List.mem_singleton] at hb
      rcases hb with hb | rfl
      · exact ih (u / 10) (by omega) b hb
      · rw [UInt8.toNat_ofNat']; omega
theorem decDigits_ne (u : Nat) : Lib.decDigits u ≠ [] := by
  rw [Lib.decDigits]; split <;> simp
theorem parseM_append (M acc : Nat) (l r : List UInt8) : Lib.parseUintM M acc (l ++ r) = match Lib.parseUintM M acc l with | .ok a => Lib.parseUintM M a r | .«syntax» => .«syntax» | .range => .range := by
  induction l generalizing acc with
  | nil => rfl
  | cons c t ih =>
    simp only [List.cons_append, Lib.parseUintM]
    split
    · split
      · rfl
      · split
        · rfl
        · exact ih _
    · rfl
theorem parseM_digits (u : Nat) (h : u ≤ 18446744073709551615) : Lib.parseUintM 18446744073709551615 0 (Lib.decDigits u) = .ok u := by
  induction u using Nat.strongRecOn with
  | _ u ih =>
    rw [Lib.decDigits]
    split
    next h1 =>
      have e : (UInt8.ofNat (48 + u)).toNat = 48 + u := by rw [UInt8.toNat_ofNat']; omega
      simp only [Lib.parseUintM, e]
      rw [if_pos (by omega), if_neg (by omega), if_neg (by omega)]
      congr 1; omega
    next h1 =>
      have e : (UInt8.ofNat (48 + u % 10)).toNat = 48 + u % 10 := by rw [UInt8.toNat_ofNat']; omega
      rw [parseM_append, ih (u / 10) (by omega) (by omega)]
      simp only [Lib.parseUintM, e]
      rw [if_pos (by omega), if_neg (by omega), if_neg (by omega)]
      congr 1; omega
theorem itoa_pos {n : Int} (h : 0 ≤ n) : Lib.itoa n = Lib.decDigits n.toNat := by unfold Lib.itoa; rw [if_neg (by omega)]
theorem guess_dec (n : Int) (h0 : 0 ≤ n) (h1 : n ≤ 9223372036854775807) : guessI (decS n) = n := by
  have hl : (decS n).data.toList = Lib.decDigits n.toNat := by show (Lib.itoa n) = _; exact itoa_pos h0
  unfold guessI
  rw [hl]
  have hp : Lib.parseIntB 64 (Lib.decDigits n.toNat) = .ok n := by
    have hne := decDigits_ne n.toNat
    have hb := decDigits_byte n.toNat
    have hm := parseM_digits n.toNat (by omega)
    generalize Lib.decDigits n.toNat = L at hne hb hm
    cases L with
    | nil => exact absurd rfl hne
    | cons c t =>
      have := hb c (by simp)
      have h43 : ¬ (c.toNat = 43 ∨ c.toNat = 45) := by omega
      have h45 : ¬ (c.toNat = 45) := by omega
      have hu : Lib.parseUintB 64 (c :: t) = .ok n.toNat := by
        unfold Lib.parseUintB
        rw [if_neg (by simp), show (2 ^ 64 - 1 : Nat) = 18446744073709551615 by decide]
        exact hm
      simp only [Lib.parseIntB, if_neg h43, hu]
      rw [if_neg (by omega), if_neg (by omega), if_neg (by omega)]
      congr 1; omega
  rw [hp]
theorem itoa_noDot {n : Int} (h : 0 ≤ n) : NoDot (Lib.itoa n) := by
  rw [itoa_pos h]
  intro b hb e
  have := decDigits_byte _ b hb
  rw [e] at this
  revert this; decide
theorem label_noDot {l : List UInt8} (h : labelB l = true) : NoDot l := by
  unfold labelB at h
  simp only [Bool.and_eq_true, List.all_eq_true] at h
  intro b hb e
  have := h.2 b hb
  rw [e] at this
  revert this; decide

theorem index_dot (a b : List UInt8) (h : NoDot a) : Lib.index (a ++ 46 :: b) [46] = a.length := by
  induction a with
  | nil => simp [Lib.index, List.isPrefixOf]
  | cons c t ih =>
    have h1 : c ≠ 46 := h c (by simp)
    have h2 := ih (fun b hb => h b (by simp [hb]))
    rw [List.cons_append, Lib.index, h2, if_neg (by simp [List.isPrefixOf, Ne.symm h1]), if_neg (by rw [beq_iff_eq]; omega)]
    simp
theorem cut_dot (a b : List UInt8) (h : NoDot a) : Lib.cut (a ++ 46 :: b) [46] = (a, b, true) := by
  unfold Lib.cut
  rw [index_dot a b h, if_pos (by omega)]
  simp
theorem occ_at (s : List UInt8) (j : Nat) : Lib.occAt s [46] j = true ↔ s[j]? = some 46 := by
  constructor
  · exact Lib.occAt_head rfl
  · intro h
    unfold Lib.occAt
    have hj : j < s.length := (List.getElem?_eq_some_iff.1 h).1
    rw [List.drop_eq_getElem_cons hj, (List.getElem?_eq_some_iff.1 h).2]
    simp [List.isPrefixOf]
theorem last_dot (a b : List UInt8) (h : NoDot b) : Lib.lastIndex (a ++ 46 :: b) [46] = a.length := by
  unfold Lib.lastIndex
  rw [if_pos (by simp; omega)]
  have hk : (a ++ 46 :: b).length - [(46 : UInt8)].length + 1 = a.length + b.length + 1 := by simp
  rw [hk]
  rcases Lib.lastOcc_spec (a ++ 46 :: b) [46] (a.length + b.length + 1) with ⟨_, hn⟩ | ⟨i, hi, e, hc, hn⟩
  · have := hn a.length (by omega)
    rw [(occ_at _ _).2 (by simp)] at this
    cases this
  · rw [e]
    have hc' := (occ_at _ _).1 hc
    have h1 : ¬ i < a.length := fun hlt => by
      have := hn a.length hlt (by omega)
      rw [(occ_at _ _).2 (by simp)] at this
      cases this
    have h2 : ¬ a.length < i := fun hlt => by
      rw [List.getElem?_append_right (by omega), show i - a.length = (i - a.length - 1) + 1 by omega, List.getElem?_cons_succ] at hc'
      exact h 46 (List.mem_of_getElem? hc') rfl
    have : i = a.length := by omega
    rw [this]

/-- A text at all its dots. -/
def splitD : List UInt8 → List (List UInt8)
  | [] => [[]]
  | c :: r => if c = 46 then [] :: splitD r else match splitD r with | [] => [[c]] | h :: t => (c :: h) :: t
theorem splitD_dot (a b : List UInt8) (h : NoDot a) : splitD (a ++ 46 :: b) = a :: splitD b := by
  induction a with
  | nil => simp [splitD]
  | cons c t ih =>
    have h1 : c ≠ 46 := h c (by simp)
    rw [List.cons_append, splitD, if_neg h1, ih (fun b hb => h b (by simp [hb]))]
theorem splitD_end (a : List UInt8) (h : NoDot a) : splitD a = [a] := by
  induction a with
  | nil => rfl
  | cons c t ih =>
    have h1 : c ≠ 46 := h c (by simp)
    rw [splitD, if_neg h1, ih (fun b hb => h b (by simp [hb]))]

theorem ba_ext {a b : ByteArray} (h : a.data.toList = b.data.toList) : a = b := by
  apply ByteArray.ext; exact Array.toList_inj.1 h
theorem ba_mk (s : ByteArray) : (⟨s.data.toList.toArray⟩ : ByteArray) = s := by cases s; simp
theorem app_list (a b : ByteArray) : (a ++ b).data.toList = a.data.toList ++ b.data.toList := by simp
theorem brT_list (r : Int) (l : ByteArray) : (brT r l).data.toList = Lib.itoa r ++ 46 :: l.data.toList := by
  unfold brT
  rw [app_list, app_list]
  show (Lib.itoa r ++ [46]) ++ _ = _
  simp
theorem nmT_list (r : Int) (l : ByteArray) (n : Int) : (nmT r l n).data.toList = (brT r l).data.toList ++ 46 :: Lib.itoa n := by
  unfold nmT
  rw [app_list, app_list]
  show (_ ++ [46]) ++ Lib.itoa n = _
  simp
def midT (r : Int) (l : ByteArray) (n x : Int) : ByteArray := nmT r l n ++ dotS ++ decS x
theorem midT_list (r : Int) (l : ByteArray) (n x : Int) : (midT r l n x).data.toList = (nmT r l n).data.toList ++ 46 :: Lib.itoa x := by
  unfold midT
  rw [app_list, app_list]
  show (_ ++ [46]) ++ Lib.itoa x = _
  simp
theorem stT_list (g r : Int) (l : ByteArray) (n x : Int) : (stT g r l n x).data.toList = Lib.itoa g ++ 46 :: (midT r l n x).data.toList := by
  rw [midT_list]
  unfold stT
  rw [app_list, app_list, app_list, app_list]
  show ((((Lib.itoa g ++ [46]) ++ _) ++ [46]) ++ Lib.itoa x) = _
  simp

theorem cutA_of {s : ByteArray} {a b : List UInt8} (h : s.data.toList = a ++ 46 :: b) (hn : NoDot a) : cutA s = ⟨a.toArray⟩ ∧ cutB s = ⟨b.toArray⟩ := by
  unfold cutA cutB
  rw [h, cut_dot a b hn]
  exact ⟨rfl, rfl⟩
theorem lastA_of {s : ByteArray} {a b : List UInt8} (h : s.data.toList = a ++ 46 :: b) (hn : NoDot b) : lastA s = ⟨a.toArray⟩ ∧ lastB s = ⟨b.toArray⟩ := by
  have hk : lastK s = a.length := by unfold lastK; rw [h, last_dot a b hn]; simp
  unfold lastA lastB
  rw [hk, ext_take, ext_drop, h]
  refine ⟨by simp, ?_⟩
  congr 2
  simp [Lib.trimPrefix, Lib.hasPrefix, List.isPrefixOf]

theorem branch_parts {r : Int} {l : ByteArray} (h : branchV r l = true) : 0 ≤ r ∧ r < 8 ∧ labelB l.data.toList = true := by
  unfold branchV at h
  simp only [Bool.and_eq_true, decide_eq_true_eq] at h
  exact ⟨h.1.1, h.1.2, h.2⟩
theorem name_parts {r : Int} {l : ByteArray} {n : Int} (h : nameV r l n = true) : branchV r l = true ∧ 1 ≤ n ∧ n ≤ 4611686018427387904 := by
  unfold nameV cntV at h
  simp only [Bool.and_eq_true, decide_eq_true_eq] at h
  exact h
theorem stamp_parts {g r : Int} {l : ByteArray} {n x : Int} (h : stampV g r l n x = true) : 1 ≤ g ∧ g ≤ 4611686018427387904 ∧ nameV r l n = true ∧ 0 ≤ x ∧ x < 64 := by
  unfold stampV cntV at h
  simp only [Bool.and_eq_true, decide_eq_true_eq] at h
  exact ⟨h.1.1.1, h.1.1.2, h.1.2, h.2.1, h.2.2⟩

/-- A branch's text is read as that branch. -/
theorem pb_of {r : Int} {l : ByteArray} (h : branchV r l = true) : pbV (brT r l) = true ∧ pbR (brT r l) = r ∧ pbL (brT r l) = l := by
  obtain ⟨h0, h1, h2⟩ := branch_parts h
  obtain ⟨ea, eb⟩ := cutA_of (brT_list r l) (itoa_noDot h0)
  have eg : guessI (cutA (brT r l)) = r := by rw [ea]; exact guess_dec r h0 (by omega)
  have el : cutB (brT r l) = l := by rw [eb]
  have hv : pbV (brT r l) = true := by unfold pbV; rw [eg, el, h]; simp
  refine ⟨hv, ?_, ?_⟩
  · unfold pbR; rw [if_pos hv, eg]
  · unfold pbL; rw [if_pos hv, el]
theorem pb_inv {s : ByteArray} (h : pbV s = true) : branchV (pbR s) (pbL s) = true ∧ brT (pbR s) (pbL s) = s := by
  unfold pbR pbL
  rw [if_pos h, if_pos h]
  unfold pbV at h
  simpa using h
theorem pn_of {r : Int} {l : ByteArray} {n : Int} (h : nameV r l n = true) : pnV (nmT r l n) = true ∧ pnR (nmT r l n) = r ∧ pnL (nmT r l n) = l ∧ pnN (nmT r l n) = n := by
  obtain ⟨hb, n0, n1⟩ := name_parts h
  obtain ⟨p1, p2, p3⟩ := pb_of hb
  obtain ⟨ea, eb⟩ := lastA_of (nmT_list r l n) (itoa_noDot (by omega))
  have e1 : lastA (nmT r l n) = brT r l := by rw [ea]
  have e2 : guessI (lastB (nmT r l n)) = n := by rw [eb]; exact guess_dec n (by omega) (by omega)
  have hv : pnV (nmT r l n) = true := by unfold pnV; rw [e1, e2, p2, p3, h]; simp
  refine ⟨hv, ?_, ?_, ?_⟩
  · unfold pnR; rw [if_pos hv, e1, p2]
  · unfold pnL; rw [if_pos hv, e1, p3]
  · unfold pnN; rw [if_pos hv, e2]
theorem pn_inv {s : ByteArray} (h : pnV s = true) : nameV (pnR s) (pnL s) (pnN s) = true ∧ nmT (pnR s) (pnL s) (pnN s) = s := by
  unfold pnR pnL pnN
  rw [if_pos h, if_pos h, if_pos h]
  unfold pnV at h
  simpa using h

/-- What Parse takes for a stamp's parts. -/
def psM (s : ByteArray) : ByteArray := lastA (cutB s)
def psV (s : ByteArray) : Bool := stampV (guessI (cutA s)) (pnR (psM s)) (pnL (psM s)) (pnN (psM s)) (guessI (lastB (cutB s))) && decide (stT (guessI (cutA s)) (pnR (psM s)) (pnL (psM s)) (pnN (psM s)) (guessI (lastB (cutB s))) = s)
def psG (s : ByteArray) : Int := if psV s then guessI (cutA s) else 0
def psR (s : ByteArray) : Int := if psV s then pnR (psM s) else 0
def psL (s : ByteArray) : ByteArray := if psV s then pnL (psM s) else ⟨#[]⟩
def psN (s : ByteArray) : Int := if psV s then pnN (psM s) else 0
def psX (s : ByteArray) : Int := if psV s then guessI (lastB (cutB s)) else 0
theorem ps_of {g r : Int} {l : ByteArray} {n x : Int} (h : stampV g r l n x = true) : psV (stT g r l n x) = true ∧ psG (stT g r l n x) = g ∧ psR (stT g r l n x) = r ∧ psL (stT g r l n x) = l ∧ psN (stT g r l n x) = n ∧ psX (stT g r l n x) = x := by
  obtain ⟨g0, g1, hn, x0, x1⟩ := stamp_parts h
  obtain ⟨p1, p2, p3, p4⟩ := pn_of hn
  obtain ⟨ea, eb⟩ := cutA_of (stT_list g r l n x) (itoa_noDot (by omega))
  have e1 : cutB (stT g r l n x) = midT r l n x := by rw [eb]
  have e2 : guessI (cutA (stT g r l n x)) = g := by rw [ea]; exact guess_dec g (by omega) (by omega)
  obtain ⟨ec, ed⟩ := lastA_of (midT_list r l n x) (itoa_noDot (by omega))
  have e3 : psM (stT g r l n x) = nmT r l n := by unfold psM; rw [e1, ec]
  have e4 : guessI (lastB (cutB (stT g r l n x))) = x := by rw [e1, ed]; exact guess_dec x (by omega) (by omega)
  have hv : psV (stT g r l n x) = true := by unfold psV; rw [e2, e3, e4, p2, p3, p4, h]; simp
  refine ⟨hv, ?_, ?_, ?_, ?_, ?_⟩
  · unfold psG; rw [if_pos hv, e2]
  · unfold psR; rw [if_pos hv, e3, p2]
  · unfold psL; rw [if_pos hv, e3, p3]
  · unfold psN; rw [if_pos hv, e3, p4]
  · unfold psX; rw [if_pos hv, e4]
theorem ps_inv {s : ByteArray} (h : psV s = true) : stampV (psG s) (psR s) (psL s) (psN s) (psX s) = true ∧ stT (psG s) (psR s) (psL s) (psN s) (psX s) = s := by
  unfold psG psR psL psN psX
  rw [if_pos h, if_pos h, if_pos h, if_pos h, if_pos h]
  unfold psV at h
  simpa using h

/-- The document's pieces of a text. -/
def pcs (s : ByteArray) : List ByteArray := ((splitD s.data.toList).take 9).map fun l => ⟨l.toArray⟩
theorem pcs_br {r : Int} {l : ByteArray} (h : branchV r l = true) : pcs (brT r l) = [decS r, l] := by
  obtain ⟨h0, h1, h2⟩ := branch_parts h
  unfold pcs
  rw [brT_list, splitD_dot _ _ (itoa_noDot h0), splitD_end _ (label_noDot h2)]
  simp [ba_mk]
theorem nmT_full (r : Int) (l : ByteArray) (n : Int) : (nmT r l n).data.toList = Lib.itoa r ++ 46 :: (l.data.toList ++ 46 :: Lib.itoa n) := by
  rw [nmT_list, brT_list]; simp
theorem stT_full (g r : Int) (l : ByteArray) (n x : Int) : (stT g r l n x).data.toList = Lib.itoa g ++ 46 :: (Lib.itoa r ++ 46 :: (l.data.toList ++ 46 :: (Lib.itoa n ++ 46 :: Lib.itoa x))) := by
  rw [stT_list, midT_list, nmT_full]; simp
theorem pcs_nm {r : Int} {l : ByteArray} {n : Int} (h : nameV r l n = true) : pcs (nmT r l n) = [decS r, l, decS n] := by
  obtain ⟨hb, n0, n1⟩ := name_parts h
  obtain ⟨h0, h1, h2⟩ := branch_parts hb
  unfold pcs
  rw [nmT_full, splitD_dot _ _ (itoa_noDot h0), splitD_dot _ _ (label_noDot h2), splitD_end _ (itoa_noDot (by omega))]
  simp [ba_mk]
theorem pcs_st {g r : Int} {l : ByteArray} {n x : Int} (h : stampV g r l n x = true) : pcs (stT g r l n x) = [decS g, decS r, l, decS n, decS x] := by
  obtain ⟨g0, g1, hn, x0, x1⟩ := stamp_parts h
  obtain ⟨hb, n0, n1⟩ := name_parts hn
  obtain ⟨h0, h1, h2⟩ := branch_parts hb
  unfold pcs
  rw [stT_full, splitD_dot _ _ (itoa_noDot (by omega)), splitD_dot _ _ (itoa_noDot h0), splitD_dot _ _ (label_noDot h2), splitD_dot _ _ (itoa_noDot (by omega)), splitD_end _ (itoa_noDot (by omega))]
  simp [ba_mk]
/-- The document's reading of two pieces is the program's. -/
theorem db_eq {s a b : ByteArray} (hp : pcs s = [a, b]) : (branchV (guessI a) b && decide (brT (guessI a) b = s)) = pbV s ∧ (pbV s = true → guessI a = pbR s ∧ b = pbL s) := by
  by_cases h : pbV s = true
  · obtain ⟨h1, h2⟩ := pb_inv h
    have := pcs_br h1
    rw [h2, hp] at this
    obtain ⟨rfl, rfl⟩ : a = decS (pbR s) ∧ b = pbL s := by simpa using this
    obtain ⟨r0, r1, _⟩ := branch_parts h1
    have e := guess_dec (pbR s) r0 (by omega)
    refine ⟨?_, fun _ => ⟨e, rfl⟩⟩
    rw [e, h1, h2, h]; simp
  · refine ⟨?_, fun h' => absurd h' h⟩
    rw [Bool.eq_false_iff.2 h]
    by_cases hv : (branchV (guessI a) b && decide (brT (guessI a) b = s)) = true
    · simp only [Bool.and_eq_true, decide_eq_true_eq] at hv
      have := (pb_of hv.1).1
      rw [hv.2] at this
      exact absurd this h
    · exact Bool.eq_false_iff.2 hv
theorem db_ne {s : ByteArray} (hp : (pcs s).length ≠ 2) : pbV s = false := by
  refine Bool.eq_false_iff.2 fun h => hp ?_
  obtain ⟨h1, h2⟩ := pb_inv h
  rw [← h2, pcs_br h1]; rfl
theorem dn_eq {s a b c : ByteArray} (hp : pcs s = [a, b, c]) : (nameV (guessI a) b (guessI c) && decide (nmT (guessI a) b (guessI c) = s)) = pnV s ∧ (pnV s = true → guessI a = pnR s ∧ b = pnL s ∧ guessI c = pnN s) := by
  by_cases h : pnV s = true
  · obtain ⟨h1, h2⟩ := pn_inv h
    have := pcs_nm h1
    rw [h2, hp] at this
    obtain ⟨rfl, rfl, rfl⟩ : a = decS (pnR s) ∧ b = pnL s ∧ c = decS (pnN s) := by simpa using this
    obtain ⟨hb, n0, n1⟩ := name_parts h1
    obtain ⟨r0, r1, _⟩ := branch_parts hb
    have e := guess_dec (pnR s) r0 (by omega)
    have e2 := guess_dec (pnN s) (by omega) (by omega)
    refine ⟨?_, fun _ => ⟨e, rfl, e2⟩⟩
    rw [e, e2, h1, h2, h]; simp
  · refine ⟨?_, fun h' => absurd h' h⟩
    rw [Bool.eq_false_iff.2 h]
    by_cases hv : (nameV (guessI a) b (guessI c) && decide (nmT (guessI a) b (guessI c) = s)) = true
    · simp only [Bool.and_eq_true, decide_eq_true_eq] at hv
      have := (pn_of hv.1).1
      rw [hv.2] at this
      exact absurd this h
    · exact Bool.eq_false_iff.2 hv
theorem dn_ne {s : ByteArray} (hp : (pcs s).length ≠ 3) : pnV s = false := by
  refine Bool.eq_false_iff.2 fun h => hp ?_
  obtain ⟨h1, h2⟩ := pn_inv h
  rw [← h2, pcs_nm h1]; rfl
theorem ds_eq {s a b c d e : ByteArray} (hp : pcs s = [a, b, c, d, e]) : (stampV (guessI a) (guessI b) c (guessI d) (guessI e) && decide (stT (guessI a) (guessI b) c (guessI d) (guessI e) = s)) = psV s ∧ (psV s = true → guessI a = psG s ∧ guessI b = psR s ∧ c = psL s ∧ guessI d = psN s ∧ guessI e = psX s) := by
  by_cases h : psV s = true
  · obtain ⟨h1, h2⟩ := ps_inv h
    have := pcs_st h1
    rw [h2, hp] at this
    obtain ⟨rfl, rfl, rfl, rfl, rfl⟩ : a = decS (psG s) ∧ b = decS (psR s) ∧ c = psL s ∧ d = decS (psN s) ∧ e = decS (psX s) := by simpa using this
    obtain ⟨g0, g1, hn, x0, x1⟩ := stamp_parts h1
    obtain ⟨hb, n0, n1⟩ := name_parts hn
    obtain ⟨r0, r1, _⟩ := branch_parts hb
    have e1 := guess_dec (psG s) (by omega) (by omega)
    have e2 := guess_dec (psR s) r0 (by omega)
    have e3 := guess_dec (psN s) (by omega) (by omega)
    have e4 := guess_dec (psX s) (by omega) (by omega)
    refine ⟨?_, fun _ => ⟨e1, e2, rfl, e3, e4⟩⟩
    rw [e1, e2, e3, e4, h1, h2, h]; simp
  · refine ⟨?_, fun h' => absurd h' h⟩
    rw [Bool.eq_false_iff.2 h]
    by_cases hv : (stampV (guessI a) (guessI b) c (guessI d) (guessI e) && decide (stT (guessI a) (guessI b) c (guessI d) (guessI e) = s)) = true
    · simp only [Bool.and_eq_true, decide_eq_true_eq] at hv
      have := (ps_of hv.1).1
      rw [hv.2] at this
      exact absurd this h
    · exact Bool.eq_false_iff.2 hv
theorem ds_ne {s : ByteArray} (hp : (pcs s).length ≠ 5) : psV s = false := by
  refine Bool.eq_false_iff.2 fun h => hp ?_
  obtain ⟨h1, h2⟩ := ps_inv h
  rw [← h2, pcs_st h1]; rfl
end Go.Proofs.YtkjabnpniingnaaGreatDoor
