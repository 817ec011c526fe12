/-
  LISTS OF PAIRS: owned, read; Take of pairs.
-/
import Derived.Test.YtjbnhfcacocgeaaPairs
namespace Go.Proofs.Ytjbnhfcacocgeaa
open Go.RowKit
set_option linter.unusedSimpArgs false

theorem Try.info59 : (Try.prog.info? 59).map (fun i => (i.zero, i.size, i.bytes)) = some (some (.agg #[.int .u64 0, .int .u64 0]), 2, 16) := by kernel_rfl
theorem eqFn64 : ∀ w, (binOp .eql 64 (.func (.func 32) #[] #[]) .nilFunc).run Try.prog w = .ok (.bool false) w := fun _ => by kernel_rfl
theorem eqFn61 : ∀ w, (binOp .eql 61 (.func (.func 30) #[] #[]) .nilFunc).run Try.prog w = .ok (.bool false) w := fun _ => by kernel_rfl

/-- Pairs as cells. -/
def prs : List (Nat × Nat) → List Value
  | [] => []
  | p :: r => .int .u64 (p.1 : Int) :: .int .u64 (p.2 : Int) :: prs r
theorem prs_append : ∀ (a b : List (Nat × Nat)), prs (a ++ b) = prs a ++ prs b
  | [], _ => rfl
  | p :: r, b => by simp [prs, prs_append r b]
theorem prs_length : ∀ (a : List (Nat × Nat)), (prs a).length = a.length * 2
  | [] => rfl
  | p :: r => by simp [prs, prs_length r]; omega
theorem prs_get0 : ∀ (a : List (Nat × Nat)) (i : Nat) (p : Nat × Nat), a[i]? = some p → (prs a)[2 * i]? = some (.int .u64 (p.1 : Int))
  | [], _, _, h => by simp at h
  | q :: r, 0, p, h => by simp at h; simp [prs, h]
  | q :: r, i + 1, p, h => by
    have := prs_get0 r i p (by simpa using h)
    rw [show 2 * (i + 1) = 2 * i + 1 + 1 by omega]; simpa [prs] using this
theorem prs_get1 : ∀ (a : List (Nat × Nat)) (i : Nat) (p : Nat × Nat), a[i]? = some p → (prs a)[2 * i + 1]? = some (.int .u64 (p.2 : Int))
  | [], _, _, h => by simp at h
  | q :: r, 0, p, h => by simp at h; simp [prs, h]
  | q :: r, i + 1, p, h => by
    have := prs_get1 r i p (by simpa using h)
    rw [show 2 * (i + 1) + 1 = 2 * i + 1 + 1 + 1 by omega]; simpa [prs] using this
theorem cell_two_new (w : World) (x y : Value) (t : TypeId) : ∀ j u, [x, y][j]? = some u → (w.alloc (.cells #[x, y] t)).cell? ((⟨w.heap.size, 0, none⟩ : Addr).add j) = some u := by
  intro j u hj
  match j, hj with
  | 0, hj => simp at hj; simp [add_lit, go_sem, hj]
  | 1, hj => simp at hj; simp [add_lit, go_sem, hj]
  | j + 2, hj => simp at hj

/-- The slice value v owns the pairs ps. -/
def OwnP (w : World) (B : Nat) (v : Value) (ps : List (Nat × Nat)) : Prop := w.ownsRow B 59 2 v ps.length (prs ps)

/-- So many pairs, read one behind the other: they, the error's number, what is left. -/
def readPairs : Nat → List Int → List (Nat × Nat) × Int × List Int
  | 0, l => ([], 0, l)
  | n + 1, l => if (rpair l).2.1 = 0 then ((rpair l).1 :: (readPairs n (rpair l).2.2).1, (readPairs n (rpair l).2.2).2.1, (readPairs n (rpair l).2.2).2.2) else ([], (rpair l).2.1, (rpair l).2.2)

/-- What reading a list of pairs answers. -/
def rpairs (most : Int) (l : List Int) : List (Nat × Nat) × Int × List Int :=
  if (rcount most l).2.1 = 0 then
    if (readPairs (rcount most l).1.toNat (rcount most l).2.2).2.1 = 0 then readPairs (rcount most l).1.toNat (rcount most l).2.2
    else ([], (readPairs (rcount most l).1.toNat (rcount most l).2.2).2.1, l)
  else ([], (rcount most l).2.1, l)

/-- Where a loop over so many pairs stands. -/
def AlongP (n : Nat) (l0 : List Int) (i : Nat) (ps : List (Nat × Nat)) (li : List Int) : Prop :=
  i ≤ n ∧ ps.length = i ∧ ps.length + li.length ≤ l0.length ∧ readPairs n l0 = (ps ++ (readPairs (n - i) li).1, (readPairs (n - i) li).2.1, (readPairs (n - i) li).2.2)

theorem AlongP.start (n : Nat) (l0 : List Int) : AlongP n l0 0 [] l0 := ⟨by omega, rfl, by simp, by simp⟩

theorem rpair_len (l : List Int) (h : (rpair l).2.1 = 0) : (rpair l).2.2.length + 1 ≤ l.length := by
  unfold rpair at h ⊢
  split at h
  · rename_i h1
    have e1 := rnum_len l h1
    have e2 := rnum_len _ h
    simp only [h1, if_true]
    omega
  · rename_i h1; exact absurd h h1

theorem AlongP.next {n i : Nat} {l0 li : List Int} {ps : List (Nat × Nat)} (h : AlongP n l0 i ps li) (hi : i < n) (he : (rpair li).2.1 = 0) : AlongP n l0 (i + 1) (ps ++ [(rpair li).1]) (rpair li).2.2 := by
  obtain ⟨h1, h2, h3, h4⟩ := h
  have := rpair_len li he
  refine ⟨by omega, by simp [h2], by simp; omega, ?_⟩
  rw [h4, show n - i = (n - (i + 1)) + 1 by omega, readPairs, if_pos he]
  simp

theorem AlongP.wrong {n i : Nat} {l0 li : List Int} {ps : List (Nat × Nat)} (h : AlongP n l0 i ps li) (hi : i < n) (he : (rpair li).2.1 ≠ 0) : (readPairs n l0).2.1 = (rpair li).2.1 := by
  obtain ⟨h1, h2, h3, h4⟩ := h
  rw [h4, show n - i = (n - (i + 1)) + 1 by omega, readPairs, if_neg he]

theorem AlongP.stop {n : Nat} {l0 li : List Int} {ps : List (Nat × Nat)} (h : AlongP n l0 n ps li) : readPairs n l0 = (ps, 0, li) := by
  obtain ⟨h1, h2, h3, h4⟩ := h
  rw [h4, Nat.sub_self, readPairs]; simp

theorem OwnP.kept {w w' : World} {B : Nat} {v : Value} {ns : List (Nat × Nat)} {row : Option Nat} (h : OwnP w B v ns) (hg : w.grownBy w' row) (hne : ∀ k, row = some k → k < B) : OwnP w' B v ns := by
  refine World.ownsRow.kept h hg ?_
  cases hv : v.ownBlock with
  | none => exact .inl rfl
  | some k =>
    right
    intro e
    have h1 := (World.ownsRow.lt h k hv).1
    have h2 := hne k e.symm
    omega

theorem grown_ownP {w wr w' : World} {B R : Nat} {v : Value} {ns : List (Nat × Nat)} (h : w.grownBy wr (some R)) (ho : OwnP wr B v ns) (hB : w.heap.size ≤ B) (hg : wr.grownBy w' v.ownBlock) : w.grownBy w' (some R) :=
  ⟨hg.os.trans h.os, hg.tape.trans h.tape, hg.output.trans h.output, Nat.le_trans h.size hg.size, fun k hk hne =>
    (hg.block k (by have := h.size; omega) (fun e => by have := (World.ownsRow.lt ho k e.symm).1; omega)).trans (h.block k hk hne)⟩

theorem OwnP.form {w : World} {B : Nat} {v : Value} {ns : List (Nat × Nat)} (h : OwnP w B v ns) : ∃ ao cap, v = .slice ao ns.length cap := by
  rcases h.2 with ⟨rfl, hn⟩ | ⟨g, cap, cur, rfl, _⟩
  · exact ⟨none, 0, by rw [hn]⟩
  · exact ⟨_, _, rfl⟩
theorem OwnP.lift {w : World} {B B' : Nat} {v : Value} {ns : List (Nat × Nat)} (h : OwnP w B v ns) (hB : B' ≤ B) : OwnP w B' v ns := by
  refine ⟨h.1, ?_⟩
  rcases h.2 with h2 | ⟨g, cap, cur, h1, h2, h3⟩
  · exact .inl h2
  · exact .inr ⟨g, cap, cur, h1, by omega, h3⟩

/-- Beside an error, or behind the last one: what Take leaves. -/
def TakeP (w w' : World) (R S : Nat) (most : Int) (l : List Int) (e : Ending) : Prop :=
  ∃ ao cap, e = .returned (.tuple #[.slice ao (rpairs most l).1.length cap, .int .i64 (rpairs most l).2.1]) ∧ OwnP w' w.heap.size (.slice ao (rpairs most l).1.length cap) (rpairs most l).1 ∧ Rdr 73 w' R S (rpairs most l).2.2 ∧ w.grownBy w' (some R)

set_option maxHeartbeats 1000000 in
set_option maxRecDepth 100000 in
theorem takeP_any (R S : Nat) (most : Int) (l : List Int) (w : World) (hR : Rdr 73 w R S l) (hS : S ≤ w.heap.size) (hm : most ≤ 9223372036854775807) (hl47 : l.length ≤ 1099511627776) :
    Calls Try.prog 31 #[.pointer (some ⟨R, 0, none⟩), .int .i64 most, .func (.func 32) #[] #[]] w fun e w' => TakeP w w' R S most l e := by
  obtain ⟨i0, hi, hz0, hz1, hz2⟩ := info_parts Try.info59
  have q := eqFn64
  obtain ⟨ao, cap, c0, c1, f0, f1, hsz, hl⟩ := hR.cells
  have hRS : R < S := by obtain ⟨_, _, _, _, _, _, _, _, h, _⟩ := hR; exact h
  have hal : ∀ (o : Obj), Rdr 73 (w.alloc o) R S l := fun o => hR.kept (World.grownBy_alloc w o none) (by simp)
  have hcnt : ∀ (o : Obj), _ := fun o => rcount_any R S most l (w.alloc o) (hal o) hm
  have hn0 := rcount_nonneg most l
  have hle : 0 ≤ most → (rcount most l).1 ≤ most := rcount_le
  have hll := rcount_left most l
  by_cases he : (rcount most l).2.1 = 0
  · have hpos : 0 ≤ most := by
      apply Classical.byContradiction
      intro hneg
      have : rcount most l = (0, 2, l) := by simp [rcount, show most < 0 by omega]
      rw [this] at he
      simp at he
    have hle := hle hpos
    have HB : Hid (rpairs most l = if (readPairs (rcount most l).1.toNat (rcount most l).2.2).2.1 = 0 then readPairs (rcount most l).1.toNat (rcount most l).2.2
      else ([], (readPairs (rcount most l).1.toNat (rcount most l).2.2).2.1, l)) := by
      show rpairs most l = _
      rw [rpairs, if_pos he]
    generalize rcount most l = qq at *
    obtain ⟨n, er, l'⟩ := qq
    simp only at *
    subst he
    obtain ⟨n, rfl⟩ := Int.eq_ofNat_of_zero_le hn0
    simp only [Int.toNat_natCast] at HB
    go_enter Try.func31, Try.ntmps31
    go_wp2
    go_step3
    go_wp2_with (first | (go_at_call 45; refine (missing_no R _ c1).mono ?_; rintro e w1 ⟨rfl, rfl⟩) | (go_at_call 46; refine (hcnt _).mono ?_; rintro e w1 ⟨rfl, hR1, hg1⟩; obtain ⟨x0, x1⟩ := was_cells hg1 hsz))
    go_step3
    go_wp2
    have hgw : w.grownBy w1 (some R) := grown_trans (World.grownBy_alloc _ _ _) hg1
    have hs1 : w.heap.size + 1 ≤ w1.heap.size := by have := hg1.size; simpa using this
    clear hg1
    go_loopw [10, 11, 30] (fun er v i wr => ∃ (k : Nat) (ps : List (Nat × Nat)) (li : List Int), AlongP n l' k ps li ∧ er = .int .i64 0 ∧ i = .int .i64 k ∧ OwnP wr (w.heap.size + 1) v ps ∧ Rdr 73 wr R S li ∧ w.grownBy wr (some R) ∧ w.heap.size + 1 ≤ wr.heap.size ∧
        wr.cell? ⟨w.heap.size, 0, none⟩ = some (.slice ao l.length cap) ∧ wr.cell? ⟨w.heap.size, 1, none⟩ = some (.bool true)) (fun _ _ i _ => n - (intOf i).toNat)
    case atStart => exact ⟨0, [], l', AlongP.start _ _, rfl, rfl, World.ownsRow_nil _ _ _ _, hR1, hgw, hs1, x0, x1⟩
    case round =>
      obtain ⟨k, ps, li, hal2, rfl, rfl, hown, hRl, hgr, hsr, y0, y1⟩ := hrel
      have hkn := hal2.1
      have hpl : ps.length + li.length ≤ l'.length := hal2.2.2.1
      by_cases hlt : k < n
      · have hc := pair_any R S li wr hRl (by omega)
        by_cases hne : (rpair li).2.1 = 0
        · have hnx := hal2.next hlt hne
          have hlen := rpair_len li hne
          have HNX := hide hnx
          generalize rpair li = qn at *
          obtain ⟨⟨x, y⟩, er2, l2⟩ := qn
          simp only at *
          subst hne
          clear hal2 hnx
          go_wp2_with (first | (go_at_call 32; refine hc.mono ?_; rintro e w2 ⟨rfl, hR2, hg2⟩; have hown2 := hown.kept hg2 (by intro j hj; cases hj; omega); have hs2 := hg2.size; have y0' := hg2.cell y0 (by simp; omega); have y1' := hg2.cell y1 (by simp; omega); have hgw2 := grown_trans hgr hg2) | (at_builtin; refine wpList_append_own _ rfl _ _ 58 rfl (w.heap.size + 1) 59 i0 (.agg #[.int .u64 0, .int .u64 0]) 2 16 Try.underlying58 hi hz0 hz1 hz2 rfl (by decide) _ _ _ rfl (World.ownsRow.alloc (World.ownsRow.alloc hown2 _) _) ⟨w2.heap.size + 1, 0, none⟩ 1 1 [.int .u64 x, .int .u64 y] rfl rfl (by simpa using cell_two_new (w2.alloc (.cells #[.int .u64 x, .int .u64 y] 59)) (.int .u64 x) (.int .u64 y) 59) (by simp [Value.oneCell']) (by unfold maxLen; omega) (by omega) (by simp; omega) ?_; intro v' w3 hown3 hgrow _))
          have hlt3 : ∀ j, Value.ownBlock u11 = some j → w.heap.size + 1 ≤ j := fun j hj => (World.ownsRow.lt hown2 j hj).1
          have hP3 : OwnP w3 (w.heap.size + 1) v' (ps ++ [(x, y)]) := by
            unfold OwnP; rw [List.length_append, prs_append]; exact hown3
          have hR3 : Rdr 73 w3 R S l2 := ((hR2.kept (World.grownBy_alloc w2 _ none) (by simp)).kept (World.grownBy_alloc _ _ none) (by simp)).kept hgrow (fun j hj => by have := hlt3 j hj; omega)
          have hg3 : w.grownBy w3 (some R) := grown_ownP (grown_trans (grown_trans hgw2 (World.grownBy_alloc _ _ _)) (World.grownBy_alloc _ _ _)) (World.ownsRow.alloc (World.ownsRow.alloc hown2 _) _) (by omega) hgrow
          have hs3 := hgrow.size
          have z0 := hgrow.cell (World.cell?_alloc_keep (World.cell?_alloc_keep y0')) (fun e => by have := hlt3 _ e.symm; simp at this; omega)
          have z1 := hgrow.cell (World.cell?_alloc_keep (World.cell?_alloc_keep y1')) (fun e => by have := hlt3 _ e.symm; simp at this; omega)
          have hs3' : w.heap.size + 1 ≤ w3.heap.size := by simp at hs3; omega
          clear hown3 hgrow hown2 hR2 hg2 hc
          go_roundw
          case rel => exact ⟨k + 1, ps ++ [(x, y)], l2, HNX.out, rfl, by go_num, hP3, hR3, hg3, hs3', z0, z1⟩
          case measure => simp [intOf]; omega
        · have hw := hal2.wrong hlt hne
          have HB' : Hid (rpairs most l = ([], (rpair li).2.1, l)) := by
            show rpairs most l = _
            rw [HB.out, hw, if_neg hne]
          clear hw hal2
          generalize rpair li = qn at *
          obtain ⟨⟨x, y⟩, er2, l2⟩ := qn
          simp only at *
          have hneb : (er2 != 0) = true := by simpa using hne
          clear hne
          go_wp2_with (go_at_call 32; refine hc.mono ?_; rintro e w2 ⟨rfl, hR2, hg2⟩; have y0' := hg2.cell y0 (by simp; omega); have y1' := hg2.cell y1 (by simp; omega); have hgw2 := grown_trans hgr hg2; obtain ⟨ao1, cap1, p0, p1, g0, g1, hsz1, _⟩ := hR2.cells; have hlt2 : w.heap.size < w2.heap.size := (by have := hg2.size; omega))
          (try rw [Exit.noGoto_ret])
          go_ret2
          obtain ⟨r1, r2⟩ := Rdr.restore hR c0 hgw2 hR2
          refine ⟨none, 0, ?_, ?_, ?_, ?_⟩
          · rw [HB'.out]; rfl
          · rw [HB'.out]; exact World.ownsRow_nil _ _ _ _
          · rw [HB'.out]; exact r1.kept (World.grownBy_alloc _ _ none) (by simp)
          · exact grown_trans r2 (World.grownBy_alloc _ _ _)
      · have hkn' : k = n := by omega
        have hst : readPairs n l' = (ps, 0, li) := by rw [hkn'] at hal2; exact hal2.stop
        have HB' : Hid (rpairs most l = (ps, 0, li)) := by
          show rpairs most l = _
          rw [HB.out, hst]; simp
        clear hst hal2 hkn'
        obtain ⟨ao3, cap3, rfl⟩ := hown.form
        go_wp2
        (try rw [Exit.noGoto_ret])
        go_ret2
        refine ⟨ao3, cap3, ?_, ?_, ?_, hgr⟩
        · rw [HB'.out]; rfl
        · rw [HB'.out]; exact hown.lift (by omega)
        · rw [HB'.out]; exact hRl
  · have HE := rcount_err he
    have HB' : Hid (rpairs most l = ([], (rcount most l).2.1, l)) := by show rpairs most l = _; rw [rpairs, if_neg he]
    have hn := rcount_zero he
    generalize rcount most l = qq at *
    obtain ⟨n, er, l'⟩ := qq
    simp only at *
    subst HE hn
    have hne : (er != 0) = true := by simpa using he
    clear he
    go_enter Try.func31, Try.ntmps31
    go_wp2
    go_step3
    go_wp2_with (first | (go_at_call 45; refine (missing_no R _ c1).mono ?_; rintro e w1 ⟨rfl, rfl⟩) | (go_at_call 46; refine (hcnt _).mono ?_; rintro e w1 ⟨rfl, hR1, hg1⟩; obtain ⟨x0, x1⟩ := was_cells hg1 hsz; obtain ⟨ao1, cap1, p0, p1, g0, g1, hsz1, _⟩ := hR1.cells))
    go_step3
    go_wp2
    refine wp_loop_rounds 1 ?_
    rw [rounds_succ]
    go_wp2
    (try rw [Exit.noGoto_ret])
    go_ret2
    obtain ⟨r1, r2⟩ := Rdr.restore hR c0 (grown_trans (World.grownBy_alloc _ _ _) hg1) hR1
    refine ⟨none, 0, ?_, ?_, ?_, ?_⟩
    · rw [HB'.out]; rfl
    · rw [HB'.out]; exact World.ownsRow_nil _ _ _ _
    · rw [HB'.out]; exact r1
    · exact r2
end Go.Proofs.Ytjbnhfcacocgeaa
