/-
  WALKS over lists of numbers: Take of numbers, and the document's Numbers.
-/
import Derived.Test.YtjbnhfcacocgeaaDocB
namespace Go.Proofs.Ytjbnhfcacocgeaa
open Go.RowKit

theorem Try.info22 : (Try.prog.info? 22).map (fun i => (i.zero, i.size, i.bytes)) = some (some (.int .u64 0), 1, 8) := by kernel_rfl
theorem eqFn87 : ∀ w, (binOp .eql 87 (.func (.func 25) #[] #[]) .nilFunc).run Try.prog w = .ok (.bool false) w := fun _ => by kernel_rfl

def u64s (ns : List Nat) : List Value := ns.map (fun (n : Nat) => Value.int .u64 (Int.ofNat n))
/-- The slice value v owns the numbers ns. -/
def OwnQ (w : World) (B : Nat) (v : Value) (ns : List Nat) : Prop := w.ownsRow B 22 1 v ns.length (u64s ns)

/-- So many numbers, read one behind the other: they, the error's number, what is left. -/
def readMany : Nat → List Int → List Nat × Int × List Int
  | 0, l => ([], 0, l)
  | n + 1, l => if (rnum l).2.1 = 0 then ((rnum l).1 :: (readMany n (rnum l).2.2).1, (readMany n (rnum l).2.2).2.1, (readMany n (rnum l).2.2).2.2) else ([], (rnum l).2.1, (rnum l).2.2)

/-- What reading a list of numbers answers. -/
def rnums (most : Int) (l : List Int) : List Nat × Int × List Int :=
  if (rcount most l).2.1 = 0 then
    if (readMany (rcount most l).1.toNat (rcount most l).2.2).2.1 = 0 then readMany (rcount most l).1.toNat (rcount most l).2.2
    else ([], (readMany (rcount most l).1.toNat (rcount most l).2.2).2.1, l)
  else ([], (rcount most l).2.1, l)

/-- Where a loop over so many numbers stands. -/
def Along (n : Nat) (l0 : List Int) (i : Nat) (ps : List Nat) (li : List Int) : Prop :=
  i ≤ n ∧ ps.length = i ∧ ps.length + li.length ≤ l0.length ∧ readMany n l0 = (ps ++ (readMany (n - i) li).1, (readMany (n - i) li).2.1, (readMany (n - i) li).2.2)

theorem Along.start (n : Nat) (l0 : List Int) : Along n l0 0 [] l0 := ⟨by omega, rfl, by simp, by simp⟩

theorem Plain.readN_pos : ∀ (l : List Int) (i acc n k : Nat), Plain.readN i acc l = some (n, k) → i < k ∧ k - i ≤ l.length
  | [], _, _, _, _, h => by simp [Plain.readN] at h
  | b :: r, i, acc, n, k, h => by
    rw [Plain.readN] at h
    split at h
    · simp at h
    · split at h
      · simp only [Option.some.injEq, Prod.mk.injEq] at h
        simp; omega
      · have := Plain.readN_pos r (i + 1) _ n k h
        simp; omega

theorem rnum_len (l : List Int) (h : (rnum l).2.1 = 0) : (rnum l).2.2.length + 1 ≤ l.length := by
  rcases hx : Plain.readN 0 0 l with _ | ⟨n, k⟩
  · rw [rnum_none hx] at h; simp at h
  · rw [rnum_some hx]
    have := Plain.readN_pos l 0 0 n k hx
    simp; omega

theorem Along.next {n i : Nat} {l0 li : List Int} {ps : List Nat} (h : Along n l0 i ps li) (hi : i < n) (he : (rnum li).2.1 = 0) : Along n l0 (i + 1) (ps ++ [(rnum li).1]) (rnum li).2.2 := by
  obtain ⟨h1, h2, h3, h4⟩ := h
  have := rnum_len li he
  refine ⟨by omega, by simp [h2], by simp; omega, ?_⟩
  rw [h4, show n - i = (n - (i + 1)) + 1 by omega, readMany, if_pos he]
  simp

theorem Along.wrong {n i : Nat} {l0 li : List Int} {ps : List Nat} (h : Along n l0 i ps li) (hi : i < n) (he : (rnum li).2.1 ≠ 0) : (readMany n l0).2.1 = (rnum li).2.1 := by
  obtain ⟨h1, h2, h3, h4⟩ := h
  rw [h4, show n - i = (n - (i + 1)) + 1 by omega, readMany, if_neg he]

theorem Along.stop {n : Nat} {l0 li : List Int} {ps : List Nat} (h : Along n l0 n ps li) : readMany n l0 = (ps, 0, li) := by
  obtain ⟨h1, h2, h3, h4⟩ := h
  rw [h4, Nat.sub_self, readMany]; simp

theorem OwnQ.kept {w w' : World} {B : Nat} {v : Value} {ns : List Nat} {row : Option Nat} (h : OwnQ w B v ns) (hg : w.grownBy w' row) (hne : ∀ k, row = some k → k < B) : OwnQ w' B v ns := by
  refine World.ownsRow.kept h hg ?_
  cases hv : v.ownBlock with
  | none => exact .inl rfl
  | some k =>
    right
    intro e
    have h1 := (World.ownsRow.lt h k hv).1
    have h2 := hne k e.symm
    omega

theorem grown_ownQ {w wr w' : World} {B R : Nat} {v : Value} {ns : List Nat} (h : w.grownBy wr (some R)) (ho : OwnQ wr B v ns) (hB : w.heap.size ≤ B) (hg : wr.grownBy w' v.ownBlock) : w.grownBy w' (some R) :=
  ⟨hg.os.trans h.os, hg.tape.trans h.tape, hg.output.trans h.output, Nat.le_trans h.size hg.size, fun k hk hne =>
    (hg.block k (by have := h.size; omega) (fun e => by have := (World.ownsRow.lt ho k e.symm).1; omega)).trans (h.block k hk hne)⟩

theorem OwnQ.form {w : World} {B : Nat} {v : Value} {ns : List Nat} (h : OwnQ w B v ns) : ∃ ao cap, v = .slice ao ns.length cap := by
  rcases h.2 with ⟨rfl, hn⟩ | ⟨g, cap, cur, rfl, _⟩
  · exact ⟨none, 0, by rw [hn]⟩
  · exact ⟨_, _, rfl⟩

theorem ofNat_cast (n : Nat) : Int.ofNat n = (n : Int) := rfl

theorem World.cell?_alloc_keep {w : World} {a : Addr} {o : Obj} {u : Value} (h : w.cell? a = some u) : (w.alloc o).cell? a = some u := by
  rw [World.cell?_alloc_lt _ _ _ (World.block_lt_of_cell? w a h)]; exact h
theorem OwnQ.lift {w : World} {B B' : Nat} {v : Value} {ns : List Nat} (h : OwnQ w B v ns) (hB : B' ≤ B) : OwnQ w B' v ns := by
  refine ⟨h.1, ?_⟩
  rcases h.2 with h2 | ⟨g, cap, cur, h1, h2, h3⟩
  · exact .inl h2
  · exact .inr ⟨g, cap, cur, h1, by omega, h3⟩
theorem rcount_zero {most : Int} {l : List Int} (h : (rcount most l).2.1 ≠ 0) : (rcount most l).1 = 0 := by
  revert h; unfold rcount; split
  · simp
  · split
    · simp
    · split <;> simp

/-- Beside an error, or behind the last one: what Take leaves. -/
def TakeQ (w w' : World) (R S : Nat) (most : Int) (l : List Int) (e : Ending) : Prop :=
  ∃ ao cap, e = .returned (.tuple #[.slice ao (rnums most l).1.length cap, .int .i64 (rnums most l).2.1]) ∧ OwnQ w' w.heap.size (.slice ao (rnums most l).1.length cap) (rnums most l).1 ∧ Rdr 73 w' R S (rnums most l).2.2 ∧ w.grownBy w' (some R)

set_option maxHeartbeats 1000000 in
set_option maxRecDepth 100000 in
theorem takeQ_any (R S : Nat) (most : Int) (l : List Int) (w : World) (hR : Rdr 73 w R S l) (hS : S ≤ w.heap.size) (hm : most ≤ 9223372036854775807) (hl47 : l.length ≤ 1048576) :
    Calls Try.prog 43 #[.pointer (some ⟨R, 0, none⟩), .int .i64 most, .func (.func 25) #[] #[]] w fun e w' => TakeQ w w' R S most l e := by
  obtain ⟨i0, hi, hz0, hz1, hz2⟩ := info_parts Try.info22
  have q := eqFn87
  obtain ⟨ao, cap, c0, c1, f0, f1, hsz, hl⟩ := hR.cells
  have hRS : R < S := by obtain ⟨_, _, _, _, _, _, _, _, h, _⟩ := hR; exact h
  have hal : ∀ (o : Obj), Rdr 73 (w.alloc o) R S l := fun o => hR.kept (World.grownBy_alloc w o none) (by simp)
  have hcnt : ∀ (o : Obj), _ := fun o => rcount_any R S most l (w.alloc o) (hal o) hm
  have hn0 := rcount_nonneg most l
  have hle : 0 ≤ most → (rcount most l).1 ≤ most := rcount_le
  have hll := rcount_left most l
  by_cases he : (rcount most l).2.1 = 0
  · have hpos : 0 ≤ most := by
      apply Classical.byContradiction
      intro hneg
      have : rcount most l = (0, 2, l) := by simp [rcount, show most < 0 by omega]
      rw [this] at he
      simp at he
    have hle := hle hpos
    have HB : Hid (rnums most l = if (readMany (rcount most l).1.toNat (rcount most l).2.2).2.1 = 0 then readMany (rcount most l).1.toNat (rcount most l).2.2
      else ([], (readMany (rcount most l).1.toNat (rcount most l).2.2).2.1, l)) := by
      show rnums most l = _
      rw [rnums, if_pos he]
    generalize rcount most l = qq at *
    obtain ⟨n, er, l'⟩ := qq
    simp only at *
    subst he
    obtain ⟨n, rfl⟩ := Int.eq_ofNat_of_zero_le hn0
    simp only [Int.toNat_natCast] at HB
    go_enter Try.func43, Try.ntmps43
    go_wp2
    go_step3
    go_wp2_with (first | (go_at_call 45; refine (missing_no R _ c1).mono ?_; rintro e w1 ⟨rfl, rfl⟩) | (go_at_call 46; refine (hcnt _).mono ?_; rintro e w1 ⟨rfl, hR1, hg1⟩; obtain ⟨x0, x1⟩ := was_cells hg1 hsz))
    go_step3
    go_wp2
    have hgw : w.grownBy w1 (some R) := grown_trans (World.grownBy_alloc _ _ _) hg1
    have hs1 : w.heap.size + 1 ≤ w1.heap.size := by have := hg1.size; simpa using this
    clear hg1
    go_loopw [10, 11, 30] (fun er v i wr => ∃ (k : Nat) (ps : List Nat) (li : List Int), Along n l' k ps li ∧ er = .int .i64 0 ∧ i = .int .i64 k ∧ OwnQ wr (w.heap.size + 1) v ps ∧ Rdr 73 wr R S li ∧ w.grownBy wr (some R) ∧ w.heap.size + 1 ≤ wr.heap.size ∧
        wr.cell? ⟨w.heap.size, 0, none⟩ = some (.slice ao l.length cap) ∧ wr.cell? ⟨w.heap.size, 1, none⟩ = some (.bool true)) (fun _ _ i _ => n - (intOf i).toNat)
    case atStart => exact ⟨0, [], l', Along.start _ _, rfl, rfl, World.ownsRow_nil _ _ _ _, hR1, hgw, hs1, x0, x1⟩
    case round =>
      obtain ⟨k, ps, li, hal2, rfl, rfl, hown, hRl, hgr, hsr, y0, y1⟩ := hrel
      have hkn := hal2.1
      have hpl : ps.length + li.length ≤ l'.length := hal2.2.2.1
      by_cases hlt : k < n
      · have hc := rnumber_any R S li wr hRl
        unfold NumPost at hc
        by_cases hne : (rnum li).2.1 = 0
        · have hnx := hal2.next hlt hne
          have hlen := rnum_len li hne
          have HNX := hide hnx
          generalize rnum li = qn at *
          obtain ⟨x, er2, l2⟩ := qn
          simp only at *
          subst hne
          clear hal2 hnx
          go_wp2_with (first | (go_at_call 25; refine hc.mono ?_; rintro e w2 ⟨rfl, hR2, hg2⟩; have hown2 := hown.kept hg2 (by intro j hj; cases hj; omega); have hs2 := hg2.size; have y0' := hg2.cell y0 (by simp; omega); have y1' := hg2.cell y1 (by simp; omega); have hgw2 := grown_trans hgr hg2) | (at_builtin; refine wpList_append_own _ rfl _ _ 84 rfl (w.heap.size + 1) 22 i0 (.int .u64 0) 1 8 Try.underlying84 hi hz0 hz1 hz2 rfl (by decide) _ _ _ rfl (World.ownsRow.alloc hown2 _) ⟨w2.heap.size, 0, none⟩ 1 1 [.int .u64 x] rfl rfl (cell_one_new _ _ _) (by simp [Value.oneCell']) (by unfold maxLen; omega) (by omega) (by simp; omega) ?_; intro v' w3 hown3 hgrow _))
          have hlt3 : ∀ j, Value.ownBlock u11 = some j → w.heap.size + 1 ≤ j := fun j hj => (World.ownsRow.lt hown2 j hj).1
          have hQ3 : OwnQ w3 (w.heap.size + 1) v' (ps ++ [x]) := by
            unfold OwnQ u64s; rw [List.length_append, List.map_append]; exact hown3
          have hR3 : Rdr 73 w3 R S l2 := (hR2.kept (World.grownBy_alloc w2 _ none) (by simp)).kept hgrow (fun j hj => by have := hlt3 j hj; omega)
          have hg3 : w.grownBy w3 (some R) := grown_ownQ (grown_trans hgw2 (World.grownBy_alloc _ _ _)) (World.ownsRow.alloc hown2 _) (by omega) hgrow
          have hs3 := hgrow.size
          have z0 := hgrow.cell (World.cell?_alloc_keep y0') (fun e => by have := hlt3 _ e.symm; simp at this; omega)
          have z1 := hgrow.cell (World.cell?_alloc_keep y1') (fun e => by have := hlt3 _ e.symm; simp at this; omega)
          have hs3' : w.heap.size + 1 ≤ w3.heap.size := by simp at hs3; omega
          clear hown3 hgrow hown2 hR2 hg2 hc
          go_roundw
          case rel => exact ⟨k + 1, ps ++ [x], l2, HNX.out, rfl, by go_num, hQ3, hR3, hg3, hs3', z0, z1⟩
          case measure => simp [intOf]; omega
        · have hw := hal2.wrong hlt hne
          have HB' : Hid (rnums most l = ([], (rnum li).2.1, l)) := by
            show rnums most l = _
            rw [HB.out, hw, if_neg hne]
          clear hw hal2
          generalize rnum li = qn at *
          obtain ⟨x, er2, l2⟩ := qn
          simp only at *
          have hneb : (er2 != 0) = true := by simpa using hne
          clear hne
          go_wp2_with (go_at_call 25; refine hc.mono ?_; rintro e w2 ⟨rfl, hR2, hg2⟩; have y0' := hg2.cell y0 (by simp; omega); have y1' := hg2.cell y1 (by simp; omega); have hgw2 := grown_trans hgr hg2; obtain ⟨ao1, cap1, p0, p1, g0, g1, hsz1, _⟩ := hR2.cells)
          (try rw [Exit.noGoto_ret])
          go_ret2
          obtain ⟨r1, r2⟩ := Rdr.restore hR c0 hgw2 hR2
          refine ⟨none, 0, ?_, ?_, ?_, ?_⟩
          · rw [HB'.out]; rfl
          · rw [HB'.out]; exact World.ownsRow_nil _ _ _ _
          · rw [HB'.out]; exact r1
          · exact r2
      · have hkn' : k = n := by omega
        have hst : readMany n l' = (ps, 0, li) := by rw [hkn'] at hal2; exact hal2.stop
        have HB' : Hid (rnums most l = (ps, 0, li)) := by
          show rnums most l = _
          rw [HB.out, hst]; simp
        clear hst hal2 hkn'
        obtain ⟨ao3, cap3, rfl⟩ := hown.form
        go_wp2
        (try rw [Exit.noGoto_ret])
        go_ret2
        refine ⟨ao3, cap3, ?_, ?_, ?_, hgr⟩
        · rw [HB'.out]; rfl
        · rw [HB'.out]; exact hown.lift (by omega)
        · rw [HB'.out]; exact hRl
  · have HE := rcount_err he
    have HB' : Hid (rnums most l = ([], (rcount most l).2.1, l)) := by show rnums most l = _; rw [rnums, if_neg he]
    have hn := rcount_zero he
    generalize rcount most l = qq at *
    obtain ⟨n, er, l'⟩ := qq
    simp only at *
    subst HE hn
    have hne : (er != 0) = true := by simpa using he
    clear he
    go_enter Try.func43, Try.ntmps43
    go_wp2
    go_step3
    go_wp2_with (first | (go_at_call 45; refine (missing_no R _ c1).mono ?_; rintro e w1 ⟨rfl, rfl⟩) | (go_at_call 46; refine (hcnt _).mono ?_; rintro e w1 ⟨rfl, hR1, hg1⟩; obtain ⟨x0, x1⟩ := was_cells hg1 hsz; obtain ⟨ao1, cap1, p0, p1, g0, g1, hsz1, _⟩ := hR1.cells))
    go_step3
    go_wp2
    refine wp_loop_rounds 1 ?_
    rw [rounds_succ]
    go_wp2
    (try rw [Exit.noGoto_ret])
    go_ret2
    obtain ⟨r1, r2⟩ := Rdr.restore hR c0 (grown_trans (World.grownBy_alloc _ _ _) hg1) hR1
    refine ⟨none, 0, ?_, ?_, ?_, ?_⟩
    · rw [HB'.out]; rfl
    · rw [HB'.out]; exact World.ownsRow_nil _ _ _ _
    · rw [HB'.out]; exact r1
    · exact r2
end Go.Proofs.Ytjbnhfcacocgeaa
