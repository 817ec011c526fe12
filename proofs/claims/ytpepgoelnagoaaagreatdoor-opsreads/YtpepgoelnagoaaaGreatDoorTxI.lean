/-
  OPS, texts: what is read of a text has just that text.
-/
import Derived.Test.YtpepgoelnagoaaaGreatDoorMg19
namespace Go.Proofs.YtpepgoelnagoaaaGreatDoor
open Go.RowKit Go.Shelf
set_option linter.unusedSimpArgs false
set_option linter.unusedVariables false

theorem index_take (a : UInt8) (t : List UInt8) : ∀ (l : List UInt8) (i : Nat), Lib.index l (a :: t) = (i : Int) → l = l.take i ++ (a :: t) ++ l.drop (i + (t.length + 1))
  | [], i, h => by
    unfold Lib.index at h
    simp at h
  | b :: l, i, h => by
    unfold Lib.index at h
    split at h
    · rename_i hp
      have hi : i = 0 := by omega
      subst hi
      obtain ⟨r, hr⟩ := List.isPrefixOf_iff_prefix.1 hp
      rw [List.take_zero, List.nil_append, Nat.zero_add, ← hr]
      simp
    · split at h
      · omega
      · rename_i hn
        have hg := Lib.index_ge l (a :: t)
        have hn' : Lib.index l (a :: t) ≠ -1 := by simpa using hn
        obtain ⟨j, hj⟩ : ∃ j : Nat, Lib.index l (a :: t) = (j : Int) := ⟨(Lib.index l (a :: t)).toNat, by omega⟩
        have hi : i = j + 1 := by omega
        subst hi
        have ih := index_take a t l j hj
        conv => lhs; rw [ih]
        rw [show j + 1 + (t.length + 1) = (j + (t.length + 1)) + 1 by omega, List.drop_succ_cons, List.take_succ_cons]
        simp
/-- What a text's rest stands for: nothing, or a sign and the rest. -/
def restL (sg : List UInt8) (q : Pz) : List UInt8 := if q.more = true then sg ++ q.left.data.toList else []
theorem nextP_inv (a : UInt8) (t : List UInt8) {q : Pz} (h : q.more = true) : q.left.data.toList = (nextP (a :: t) q).1.data.toList ++ restL (a :: t) (nextP (a :: t) q).2.2 ∧ (nextP (a :: t) q).2.1 = true := by
  unfold nextP
  rw [if_pos h]
  dsimp only
  refine ⟨?_, rfl⟩
  unfold restL Lib.cut
  split
  · rename_i hi
    obtain ⟨i, hi2⟩ : ∃ i : Nat, Lib.index q.left.data.toList (a :: t) = (i : Int) := ⟨(Lib.index q.left.data.toList (a :: t)).toNat, by omega⟩
    have := index_take a t _ i hi2
    dsimp only
    rw [if_pos rfl, hi2, Int.toNat_natCast]
    conv => lhs; rw [this]
    simp
  · dsimp only
    rw [if_neg (by simp)]
    simp
theorem nextP_no {sg : List UInt8} {q : Pz} (h : q.more = false) : nextP sg q = (⟨#[]⟩, false, q) := by
  unfold nextP
  rw [if_neg (by simp [h])]
theorem more_of {sg : List UInt8} {q : Pz} (h : (nextP sg q).1 ≠ ⟨#[]⟩) : q.more = true := by
  cases hm : q.more
  · exact absurd (by rw [nextP_no hm]) h
  · rfl
theorem ofW_inv {t : ByteArray} {d : Int} (h : Ki.ofWB Ki.doWs t = (d, true)) : t.data.toList = doW d ∧ 1 ≤ d ∧ d ≤ 7 ∧ t ≠ ⟨#[]⟩ := by
  have hc : Ki.countL Ki.doWs = [(1, ⟨#[97, 100, 100]⟩), (2, ⟨#[105, 110, 115, 101, 114, 116]⟩), (3, ⟨#[114, 101, 109, 111, 118, 101]⟩), (4, ⟨#[119, 114, 105, 116, 101]⟩), (5, ⟨#[112, 117, 115, 104]⟩), (6, ⟨#[112, 111, 112]⟩), (7, ⟨#[97, 112, 112, 101, 110, 100]⟩)] := by decide
  have key : ∀ x ∈ Ki.countL Ki.doWs, x.2.data.toList = doW (x.1 : Int) ∧ 1 ≤ x.1 ∧ x.1 ≤ 7 ∧ x.2 ≠ ⟨#[]⟩ := by
    rw [hc]
    intro x hx
    simp only [List.mem_cons, List.not_mem_nil, or_false] at hx
    rcases hx with rfl | rfl | rfl | rfl | rfl | rfl | rfl <;> exact ⟨by rfl, by decide, by decide, by decide⟩
  unfold Ki.ofWB at h
  rcases hf : (Ki.countL Ki.doWs).find? (fun x => decide (x.2 = t)) with _ | x
  · rw [hf] at h; simp at h
  · rw [hf] at h
    have h1 := List.find?_some hf
    have h2 := key x (List.mem_of_find?_eq_some hf)
    simp only [decide_eq_true_eq] at h1
    simp only [Option.elim_some, Prod.mk.injEq, and_true] at h
    subst h1
    subst h
    exact ⟨h2.1, by omega, by omega, h2.2.2.2⟩
theorem unP_inv {w : List UInt8} (h : (unP (unwordB w)).2 = 0) : wordB (unP (unwordB w)).1.data.toList = w ∧ w ≠ [] := by
  rcases hu : unwordB w with _ | t
  · rw [hu] at h; cases h
  · refine ⟨?_, fun e => ?_⟩
    · show wordB (⟨t.toArray⟩ : ByteArray).data.toList = w
      exact unword_sound hu
    · subst e
      unfold unwordB at hu
      simp at hu
theorem splitP_inv {r : ByteArray × Int} (h : (splitP r).2 = 0) : r.2 = 0 ∧ joinB (splitP r).1 = r.1.data.toList := by
  unfold splitP at h ⊢
  split at h
  · rename_i h0
    rw [if_pos h0]
    split at h
    · rename_i L hL
      exact ⟨h0, (split_sound hL).2⟩
    · cases h
  · rename_i h0
    exact absurd h h0
theorem numP_inv {w : ByteArray} (h : (numP (numW w)).2 = 0) : decL (numP (numW w)).1 = w.data.toList ∧ I64 (numP (numW w)).1 ∧ w ≠ ⟨#[]⟩ := by
  rcases hn : numW w with _ | v
  · rw [hn] at h; cases h
  · unfold numW at hn
    split at hn
    · rename_i v' hv
      split at hn
      · rename_i hd
        simp only [Option.some.injEq] at hn
        subst hn
        refine ⟨hd, ok_range hv, fun e => ?_⟩
        subst e
        have : Lib.parseIntB 64 (⟨#[]⟩ : ByteArray).data.toList ≠ .ok v' := by
          have : decL v' ≠ [] := by
            intro e
            rw [e] at hd
            have h2 := parse_itoa (ok_range hv)
            rw [e] at h2
            revert h2
            unfold Lib.parseIntB
            simp
          exact absurd hd this
        exact this hv
      · cases hn
    · cases hn
theorem ne_empty {w : ByteArray} (h : w.data.toList ≠ []) : w ≠ ⟨#[]⟩ := fun e => h (by rw [e])
theorem rest_yes {sg : List UInt8} {q : Pz} (h : q.more = true) : restL sg q = sg ++ q.left.data.toList := if_pos h
theorem rest_no {sg : List UInt8} {q : Pz} (h : q.more = false) : restL sg q = [] := by unfold restL; rw [if_neg (by simp [h])]
theorem fld_z' {α σ : Type} {f : σ → α × Int × σ} {z : α} {er : Int} {q : σ} (h : (fld f z er q).2.1 = 0) : er = 0 ∧ fld f z er q = f q := by
  unfold fld at h ⊢
  split at h
  · rename_i h0; exact ⟨h0, if_pos h0⟩
  · rename_i h0; exact absurd h h0
/-- The first three words. -/
theorem rd3_inv {s : ByteArray} (h : (rd3 (spZ blankS) ⟨s, true⟩).2.1 = 0) :
    s.data.toList = doW (rd3 (spZ blankS) ⟨s, true⟩).1.1 ++ ([32] ++ (wordB (joinB (rd3 (spZ blankS) ⟨s, true⟩).1.2.1) ++ ([32] ++ (wordB (rd3 (spZ blankS) ⟨s, true⟩).1.2.2.data.toList ++ restL [32] (rd3 (spZ blankS) ⟨s, true⟩).2.2)))) := by
  have er3 : rd3 (spZ blankS) ⟨s, true⟩ = (((fld (spZ blankS).pd 0 0 ⟨s, true⟩).1, (fld (spZ blankS).pp [] (fld (spZ blankS).pd 0 0 ⟨s, true⟩).2.1 (fld (spZ blankS).pd 0 0 ⟨s, true⟩).2.2).1, (fld (spZ blankS).pk ⟨#[]⟩ (fld (spZ blankS).pp [] (fld (spZ blankS).pd 0 0 ⟨s, true⟩).2.1 (fld (spZ blankS).pd 0 0 ⟨s, true⟩).2.2).2.1 (fld (spZ blankS).pp [] (fld (spZ blankS).pd 0 0 ⟨s, true⟩).2.1 (fld (spZ blankS).pd 0 0 ⟨s, true⟩).2.2).2.2).1), (fld (spZ blankS).pk ⟨#[]⟩ (fld (spZ blankS).pp [] (fld (spZ blankS).pd 0 0 ⟨s, true⟩).2.1 (fld (spZ blankS).pd 0 0 ⟨s, true⟩).2.2).2.1 (fld (spZ blankS).pp [] (fld (spZ blankS).pd 0 0 ⟨s, true⟩).2.1 (fld (spZ blankS).pd 0 0 ⟨s, true⟩).2.2).2.2).2) := rfl
  rw [er3] at h ⊢
  clear er3
  dsimp only at h ⊢
  obtain ⟨g1, f1⟩ := fld_z' h
  rw [f1] at h ⊢
  clear f1
  obtain ⟨g2, f2⟩ := fld_z' g1
  rw [f2] at h g1 ⊢
  clear f2
  have f3 : fld (spZ blankS).pd 0 0 ⟨s, true⟩ = spD [32] ⟨s, true⟩ := if_pos rfl
  rw [f3] at h g1 g2 ⊢
  clear f3
  -- the Do
  obtain ⟨n1, -⟩ := nextP_inv 32 [] (q := ⟨s, true⟩) rfl
  have D : (Ki.ofWB Ki.doWs (nextP [32] ⟨s, true⟩).1).2 = true := by
    have : (spD [32] ⟨s, true⟩).2.1 = if (Ki.ofWB Ki.doWs (nextP [32] ⟨s, true⟩).1).2 = true then 0 else 4 := rfl
    rw [this] at g2
    split at g2
    · assumption
    · cases g2
  have d1 : (spD [32] ⟨s, true⟩).1 = (Ki.ofWB Ki.doWs (nextP [32] ⟨s, true⟩).1).1 := if_pos D
  obtain ⟨D1, -, -, -⟩ := ofW_inv (t := (nextP [32] ⟨s, true⟩).1) (d := (Ki.ofWB Ki.doWs (nextP [32] ⟨s, true⟩).1).1) (Prod.ext rfl D)
  have g1' : (splitP (unP (unwordB (nextP [32] (nextP [32] ⟨s, true⟩).2.2).1.data.toList))).2 = 0 := g1
  have h' : (unP (unwordB (nextP [32] (nextP [32] (nextP [32] ⟨s, true⟩).2.2).2.2).1.data.toList)).2 = 0 := h
  clear g1 h
  show s.data.toList = doW (spD [32] ⟨s, true⟩).1 ++ ([32] ++ (wordB (joinB (splitP (unP (unwordB (nextP [32] (nextP [32] ⟨s, true⟩).2.2).1.data.toList))).1) ++ ([32] ++ (wordB (unP (unwordB (nextP [32] (nextP [32] (nextP [32] ⟨s, true⟩).2.2).2.2).1.data.toList)).1.data.toList ++ restL [32] (nextP [32] (nextP [32] (nextP [32] ⟨s, true⟩).2.2).2.2).2.2))))
  rw [d1]
  clear d1 D g2
  rw [← D1]
  clear D1
  have h := h'
  have g1 := g1'
  clear h' g1'
  generalize (nextP [32] ⟨s, true⟩).1 = w0 at n1 ⊢
  generalize (nextP [32] ⟨s, true⟩).2.2 = q1 at n1 h g1 ⊢
  rw [show s.data.toList = w0.data.toList ++ restL [32] q1 from n1]
  clear n1
  congr 1
  -- the path
  have P1 : (splitP (unP (unwordB (nextP [32] q1).1.data.toList))).2 = 0 := g1
  obtain ⟨P2, P3⟩ := splitP_inv P1
  obtain ⟨P4, P5⟩ := unP_inv P2
  have m1 : q1.more = true := more_of (ne_empty P5)
  obtain ⟨n2, -⟩ := nextP_inv 32 [] m1
  rw [rest_yes m1, n2]
  rw [P3, P4]
  congr 2
  -- the key
  have K1 : (unP (unwordB (nextP [32] (nextP [32] q1).2.2).1.data.toList)).2 = 0 := h
  generalize (nextP [32] q1).2.2 = q2 at K1 ⊢
  obtain ⟨K4, K5⟩ := unP_inv K1
  have m2 : q2.more = true := more_of (ne_empty K5)
  obtain ⟨n3, -⟩ := nextP_inv 32 [] m2
  rw [rest_yes m2, n3, K4]
/-- What is read of a text has just that text. -/
theorem parseS_inv {s : ByteArray} (h : (parseS s).2 = 0) : s.data.toList = txO (parseS s).1 ∧ chkO (parseS s).1 = 0 ∧ I64 (parseS s).1.n := by
  unfold parseS at h ⊢
  split at h
  · cases h
  · rename_i hend
    rw [if_neg hend]
    unfold readS at h ⊢
    split at h
    · rename_i hc
      rw [if_pos hc]
      dsimp only
      have hc2 := hc.2
      have e4 : (rd4 (spZ blankS) (rd3 (spZ blankS) ⟨s, true⟩).1.1 (rd3 (spZ blankS) ⟨s, true⟩).2.1 (rd3 (spZ blankS) ⟨s, true⟩).2.2).2.1 = 0 := hc.1
      have eo : rdO (spZ blankS) ⟨s, true⟩ = (⟨(rd3 (spZ blankS) ⟨s, true⟩).1.2.1, Ki.ofD (rd3 (spZ blankS) ⟨s, true⟩).1.1, (rd3 (spZ blankS) ⟨s, true⟩).1.2.2, (rd3 (spZ blankS) ⟨s, true⟩).1.1, (rd4 (spZ blankS) (rd3 (spZ blankS) ⟨s, true⟩).1.1 (rd3 (spZ blankS) ⟨s, true⟩).2.1 (rd3 (spZ blankS) ⟨s, true⟩).2.2).1.1, (rd4 (spZ blankS) (rd3 (spZ blankS) ⟨s, true⟩).1.1 (rd3 (spZ blankS) ⟨s, true⟩).2.1 (rd3 (spZ blankS) ⟨s, true⟩).2.2).1.2⟩, (rd4 (spZ blankS) (rd3 (spZ blankS) ⟨s, true⟩).1.1 (rd3 (spZ blankS) ⟨s, true⟩).2.1 (rd3 (spZ blankS) ⟨s, true⟩).2.2).2.1, (rd4 (spZ blankS) (rd3 (spZ blankS) ⟨s, true⟩).1.1 (rd3 (spZ blankS) ⟨s, true⟩).2.1 (rd3 (spZ blankS) ⟨s, true⟩).2.2).2.2) := rfl
      have e3 : (rd3 (spZ blankS) ⟨s, true⟩).2.1 = 0 := by
        revert e4
        generalize (rd3 (spZ blankS) ⟨s, true⟩).1.1 = d
        generalize (rd3 (spZ blankS) ⟨s, true⟩).2.1 = er
        intro e4
        unfold rd4 at e4
        split at e4
        · exact (fld_z' e4).1
        · split at e4
          · exact e4
          · exact (fld_z' e4).1
      have h3 := rd3_inv e3
      rw [eo] at hend hc2 ⊢
      dsimp only at hend hc2 ⊢
      clear eo hc h
      generalize rd3 (spZ blankS) ⟨s, true⟩ = A at e3 e4 h3 hend hc2 ⊢
      obtain ⟨⟨d, p, ks⟩, er, q⟩ := A
      dsimp only at e3 e4 h3 hend hc2 ⊢
      subst e3
      have hx : ∀ n t, txO ⟨p, Ki.ofD d, ks, d, n, t⟩ = Lib.join ([doW d, wordB (joinB p), wordB ks.data.toList] ++ (if d = 1 then [decL n] else if d = 6 then [] else [wordB t.data.toList])) [32] := fun _ _ => rfl
      have j3 : Lib.join [doW d, wordB (joinB p), wordB ks.data.toList] [32] = doW d ++ ([32] ++ (wordB (joinB p) ++ ([32] ++ wordB ks.data.toList))) := by rw [join_cons, join_cons, join_one]; simp only [List.append_assoc]
      have j4 : ∀ x : List UInt8, Lib.join [doW d, wordB (joinB p), wordB ks.data.toList, x] [32] = doW d ++ ([32] ++ (wordB (joinB p) ++ ([32] ++ (wordB ks.data.toList ++ ([32] ++ x))))) := fun x => by rw [join_cons, join_cons, join_cons, join_one]; simp only [List.append_assoc]
      have hno : ∀ q' : Pz, ¬ (nextP [32] q').2.1 = true → q'.more = false := fun q' hq => by
        cases hm : q'.more
        · rfl
        · exact absurd (nextP_inv 32 [] hm).2 hq
      rw [hx]
      refine ⟨?_, hc2, ?_⟩
      · unfold rd4 at e4 hend ⊢
        by_cases h1 : d = 1
        · rw [if_pos h1] at e4 hend ⊢
          rw [if_pos h1]
          have f4 : fld (spZ blankS).pn 0 0 q = spN [32] q := if_pos rfl
          rw [f4] at e4 hend ⊢
          dsimp only at e4 hend ⊢
          obtain ⟨N1, -, N3⟩ := numP_inv (w := (nextP [32] q).1) e4
          have m := more_of N3
          obtain ⟨n4, -⟩ := nextP_inv 32 [] m
          have hl : restL [32] (nextP [32] q).2.2 = [] := rest_no (hno _ hend)
          rw [hl, List.append_nil] at n4
          rw [h3, rest_yes m, n4, ← N1]
          exact (j4 _).symm
        · rw [if_neg h1] at e4 hend ⊢
          rw [if_neg h1]
          by_cases h6 : d = 6
          · rw [if_pos h6] at e4 hend ⊢
            dsimp only at hend ⊢
            rw [h3, rest_no (hno _ hend), List.append_nil, List.append_nil]
            exact j3.symm
          · rw [if_neg h6] at e4 hend ⊢
            rw [if_neg h6]
            have f4 : fld (spZ blankS).pt ⟨#[]⟩ 0 q = spT [32] q := if_pos rfl
            rw [f4] at e4 hend ⊢
            dsimp only at e4 hend ⊢
            obtain ⟨T1, T2⟩ := unP_inv (w := (nextP [32] q).1.data.toList) e4
            have m := more_of (ne_empty T2)
            obtain ⟨n4, -⟩ := nextP_inv 32 [] m
            have hl : restL [32] (nextP [32] q).2.2 = [] := rest_no (hno _ hend)
            rw [hl, List.append_nil] at n4
            rw [h3, rest_yes m, n4]
            have T3 : wordB (spT [32] q).1.data.toList = (nextP [32] q).1.data.toList := T1
            rw [← T3]
            exact (j4 _).symm
      · unfold rd4 at e4 ⊢
        split
        · have f4 : fld (spZ blankS).pn 0 0 q = spN [32] q := if_pos rfl
          rw [f4]
          exact spN_num [32] q
        · split
          · unfold I64; simp
          · unfold I64; simp
    · cases h
end Go.Proofs.YtpepgoelnagoaaaGreatDoor
