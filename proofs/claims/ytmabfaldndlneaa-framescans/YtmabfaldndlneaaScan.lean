/-
  WALKS over the frame layer's over, All, Scan, One.
-/
import Derived.Test.YtmabfaldndlneaaFms
import Derived.BigQuiet
namespace Go.Proofs.Ytmabfaldndlneaa
open Go.RowKit Go.Shelf
set_option linter.unusedSimpArgs false
attribute [local go_sem] Oper.semAt_some

theorem _root_.Go.Proofs.Try.info36 : (Try.prog.info? 36).map (fun i => (i.zero, i.size, i.bytes)) = some (some (.agg #[.int .i64 0, .slice none 0 0]), 2, 32) := by kernel_rfl

set_option maxHeartbeats 400000 in
set_option maxRecDepth 100000 in
theorem over_any (ao : Option Addr) (n c : Nat) (w : World) : Calls Try.prog 17 #[.slice ao n c] w fun e w' => e = .returned (.func (.func 27) #[] #[.pointer (some ⟨w.heap.size, 0, none⟩)]) ∧ w' = w.alloc (.cells #[.slice ao n c] 22) := by
  go_enter Try.func17, Try.ntmps17
  go_wp2
  go_ret
  exact ⟨rfl, rfl⟩

/-- The frames of bytes. -/
def FL (b : List Int) : List Fr := (frs b 0).map (·.2)
theorem FL_length (b : List Int) : (FL b).length = (frs b 0).length := by simp [FL]
theorem FL_snoc {b : List Int} {k : Nat} {x : Nat × Fr} (h : (frs b 0)[k]? = some x) : (FL b).take (k + 1) = (FL b).take k ++ [x.2] := by
  obtain ⟨hk, rfl⟩ := List.getElem?_eq_some_iff.1 h
  unfold FL
  rw [List.take_succ_eq_append_getElem (by simpa using hk)]
  simp
/-- The block of a cell. -/
theorem blk1 {w : World} {R : Nat} {t : TypeId} {x : Value} (h : w.heap[R]? = some (.cells #[x] t (0, 0))) : w.cell? ⟨R, 0, none⟩ = some x ∧ w.frozen? ⟨R, 0, none⟩ = false ∧ R < w.heap.size :=
  ⟨by rw [cell_of_row w R 0 _ t (0, 0) h]; rfl, frozen_of_row w R 0 _ t h, (Array.getElem?_eq_some_iff.1 h).1⟩
theorem one_set {w : World} {R : Nat} {x v : Value} {t : TypeId} (h : w.heap[R]? = some (.cells #[x] t (0, 0))) : (w.setCell ⟨R, 0, none⟩ v).heap[R]? = some (.cells #[v] t (0, 0)) := by
  rw [heap_setCell_same _ _ _ _ t _ h]; simp

/-- Behind k rounds of Scan's range. -/
def ScanI (w : World) (b : List Int) (k : Nat) (W : World) : Prop :=
  ∃ v xs, W.heap[w.heap.size]? = some (.cells #[v] 24 (0, 0)) ∧ W.heap[w.heap.size + 1]? = some (.cells #[.int .i64 (place (frs b 0) k : Nat)] 3 (0, 0)) ∧ Fms W (w.heap.size + 5) v ((FL b).take k) xs ∧ Below w.heap.size w W ∧ w.heap.size + 3 ≤ W.heap.size
theorem ScanI.only {w W W' : World} {b : List Int} {k m : Nat} (h : ScanI w b k W) (hm : w.heap.size + 2 ≤ m ∧ m < w.heap.size + 5) (ho : Only (fun j => j = m) W W') : ScanI w b k W' := by
  obtain ⟨v, xs, h1, h2, h3, h4, h5⟩ := h
  have hs := ho.size
  exact ⟨v, xs, (ho.block _ (by omega) (by omega)).trans h1, (ho.block _ (by omega) (by omega)).trans h2, h3.only ho (fun j hj _ e => by omega), Below.only h4 ho h4.size (by intro j e; omega), by omega⟩
/-- What a round of it may turn. -/
def ScanD (n : Nat) : Nat → Prop := fun j => j = n ∨ j = n + 1 ∨ n + 5 ≤ j

set_option maxHeartbeats 600000 in
set_option maxRecDepth 100000 in
theorem scan_any {w : World} {ao : Option Addr} {c : Nat} {b : List Int} (h : Bs w ao c b) (hau : ∀ a, ao = some a → a.block < w.heap.size) (hlen : b.length ≤ 1000000) :
    Calls Try.prog 6 #[.slice ao b.length c] w fun e w' => ∃ v xs, e = .returned (.tuple #[v, .int .i64 (fend b 0 : Nat), .int .i64 (ends b : Nat)]) ∧ Fms w' w.heap.size v (FL b) xs ∧ Below w.heap.size w w' := by
  obtain ⟨i36, hi, hz0, hz1, hz2⟩ := info_parts Try.info36
  have hb2 : Below w.heap.size w ((w.alloc (.cells #[.slice none 0 0] 24)).alloc (.cells #[.int .i64 0] 3)) := ((Below.refl _ w).alloc (Nat.le_refl _) _).alloc (by simp) _
  have hov := over_any ao b.length c ((w.alloc (.cells #[.slice none 0 0] 24)).alloc (.cells #[.int .i64 0] 3))
  rw [show ((w.alloc (.cells #[.slice none 0 0] 24)).alloc (.cells #[.int .i64 0] 3)).heap.size = w.heap.size + 2 by simp] at hov
  have H := hide h
  refine calls_marks Try.func6 rfl ?_
  simp only [Try.ntmps6, List.size_toArray, List.length_cons, List.length_nil, Nat.reduceAdd, Nat.reduceSub, Array.replicate_succ, Array.replicate_zero, List.push_toArray, List.append_toArray, List.nil_append, List.cons_append]
  go_wp2_with (go_at_call 17; refine hov.mono ?_; rintro e w1 ⟨rfl, rfl⟩)
  obtain ⟨n1, n2⟩ := new2 w (.cells #[.slice none 0 0] 24) (.cells #[.int .i64 0] 3)
  have b3 : Below (w.heap.size + 2) ((w.alloc (.cells #[.slice none 0 0] 24)).alloc (.cells #[.int .i64 0] 3)) (((w.alloc (.cells #[.slice none 0 0] 24)).alloc (.cells #[.int .i64 0] 3)).alloc (.cells #[.slice ao b.length c] 22)) := (Below.refl _ _).alloc (by simp) _
  have n3 := heap_alloc_new ((w.alloc (.cells #[.slice none 0 0] 24)).alloc (.cells #[.int .i64 0] 3)) (.cells #[.slice ao b.length c] 22)
  have hs3 : (((w.alloc (.cells #[.slice none 0 0] 24)).alloc (.cells #[.int .i64 0] 3)).alloc (.cells #[.slice ao b.length c] 22)).heap.size = w.heap.size + 3 := by simp
  rw [show ((w.alloc (.cells #[.slice none 0 0] 24)).alloc (.cells #[.int .i64 0] 3)).heap.size = w.heap.size + 2 by simp] at n3
  have n1' := (b3.block _ (by omega)).trans n1
  have n2' := (b3.block _ (by omega)).trans n2
  have bw : Below w.heap.size w (((w.alloc (.cells #[.slice none 0 0] 24)).alloc (.cells #[.int .i64 0] 3)).alloc (.cells #[.slice ao b.length c] 22)) := hb2.trans (b3.mono (by omega))
  generalize ((w.alloc (.cells #[.slice none 0 0] 24)).alloc (.cells #[.int .i64 0] 3)).alloc (.cells #[.slice ao b.length c] 22) = W1 at n1' n2' n3 hs3 bw ⊢
  clear n1 n2 b3 hb2 hov h
  have hI0 : ScanI w b 0 W1 := ⟨_, [], n1', n2', by simpa using Fms.nil W1 _, bw, by omega⟩
  refine range_frs (Q := _) (w.heap.size + 2) ao c b rfl rfl ⟨(blk1 n3).1, H.out.below bw⟩ (by omega) (ScanD w.heap.size) (by unfold ScanD; omega) (fun a ha => by have := hau a ha; unfold ScanD; omega) (by unfold ScanD; omega) (by unfold ScanD; omega) (fun a ha => by have := hau a ha; omega)
    (ScanI w b) (fun _ _ => False) (fun k W W' hi ho => hi.only (by omega) ho) (fun _ _ _ hi _ => hi) hI0 ?hround ?hdone (fun _ _ hi => hi.elim)
  case hround =>
    intro k x ao' c' W0 W hx hi hbW0 hH hls
    obtain ⟨v, xs, i1, i2, i3, i4, i5⟩ := hi
    obtain ⟨a3, c3, hv3, _, _⟩ := row_form i3.row
    obtain ⟨n3', hn3'⟩ : ∃ n3', n3' = ((FL b).take k).length := ⟨_, rfl⟩
    rw [← hn3'] at hv3
    clear hn3'
    have hxl := (List.getElem?_eq_some_iff.1 hx).1
    obtain ⟨m1, m2, m3, m4⟩ := frs_mem 0 x (List.mem_of_getElem? hx)
    have hnx := next_le m3
    rw [← m4] at hnx
    have hkl : ((FL b).take k).length = k := by simp [FL]; omega
    have hfl := frs_length b 0 (by omega)
    clear m4
    have hbX : Below W.heap.size W (W.alloc (.cells #[.int .i64 x.2.kind, .slice ao' x.2.body.length c'] 36)) := (Below.refl _ W).alloc (Nat.le_refl _) _
    have hsW := hbW0.size
    have bX0 := hbW0.trans (hbX.mono hsW)
    have hoX := hH.own.below hbX
    have hnF := heap_alloc_new W (.cells #[.int .i64 x.2.kind, .slice ao' x.2.body.length c'] 36)
    have hsX : (W.alloc (.cells #[.int .i64 x.2.kind, .slice ao' x.2.body.length c'] 36)).heap.size = W.heap.size + 1 := by simp
    gi_wp2
    refine ⟨(Only.refl _ W).alloc _, fun W2 ho2 => ?_⟩
    rw [hs3] at ho2 hls
    have hs2 := ho2.size
    have hL2 := (ho2.block w.heap.size (by omega) (by omega)).trans ((bX0.block _ (by omega)).trans i1)
    have hG2 := (ho2.block (w.heap.size + 1) (by omega) (by omega)).trans ((bX0.block _ (by omega)).trans i2)
    have hF2 := (ho2.block W.heap.size (by omega) (by omega)).trans hnF
    have hM0 := i3
    have hM2 := (i3.below bX0).only ho2 (fun j hj _ e => by omega)
    have hO2 : Own 5 W2 W0.heap.size (.slice ao' x.2.body.length c') x.2.body := ho2.own hoX (fun j hj e => by have := (own_new hoX j hj).1; omega)
    have hB2 : Below w.heap.size w W2 := Below.only (i4.trans (bX0.mono i4.size)) ho2 (by omega) (by intro j e; omega)
    have hb3 : Below W2.heap.size W2 (W2.alloc (.cells #[.int .i64 x.2.kind, .slice ao' x.2.body.length c'] 36)) := (Below.refl _ W2).alloc (Nat.le_refl _) _
    have hM3 := hM2.below hb3
    obtain ⟨z0, z1, _, _⟩ := blk2 (heap_alloc_new W2 (.cells #[.int .i64 x.2.kind, .slice ao' x.2.body.length c'] 36))
    obtain ⟨v', w4, hr3, ho3, hg3, hw3⟩ := append_where (P := Try.prog) (W2.alloc (.cells #[.int .i64 x.2.kind, .slice ao' x.2.body.length c'] 36)) 24 24 36 i36 _ 2 32 Try.underlying24 hi hz0 hz1 hz2 rfl (by decide) v _ _ hM3.row ⟨W2.heap.size, 0, none⟩ 1 1 [.int .i64 x.2.kind, .slice ao' x.2.body.length c'] rfl (by
      intro j u hj
      rw [add_lit]
      match j, hj with
      | 0, hj => cases hj; exact z0
      | 1, hj => cases hj; exact z1) (by simp [Value.oneCell']) (by rw [hkl]; unfold maxLen; omega) (by rw [hkl]; omega)
    obtain ⟨a4, c4, hv4, _, _⟩ := row_form ho3
    obtain ⟨n4, hn4⟩ : ∃ n4, n4 = ((FL b).take k).length + 1 := ⟨_, rfl⟩
    rw [← hn4] at hv4
    clear hn4
    have hvb : ∀ n, v.ownBlock = some n → w.heap.size + 5 ≤ n ∧ n < W0.heap.size := fun n hn => ⟨hM0.lo n hn, (World.ownsRow.lt hM0.row n hn).2⟩
    have hs4 := hg3.size
    rw [show (W2.alloc (.cells #[.int .i64 x.2.kind, .slice ao' x.2.body.length c'] 36)).heap.size = W2.heap.size + 1 by simp] at hs4
    have k4 : ∀ m o, m < W2.heap.size → (∀ n, v.ownBlock = some n → n ≠ m) → W2.heap[m]? = some o → w4.heap[m]? = some o := fun m o hm hn ho => (hg3.block m (by simp; omega) (fun e => hn m e.symm rfl)).trans ((hb3.block m hm).trans ho)
    have hL4 := k4 _ _ (by omega) (fun n hn => by have := hvb n hn; omega) hL2
    have hG4 := k4 _ _ (by omega) (fun n hn => by have := hvb n hn; omega) hG2
    have hF4 := k4 W.heap.size _ (by omega) (fun n hn => by have := hvb n hn; omega) hF2
    obtain ⟨l1, l2, _⟩ := blk1 hL4
    obtain ⟨g1, g2, _⟩ := blk1 hG4
    obtain ⟨f1, f2, _⟩ := blk2 hF4
    obtain ⟨l0, _, _⟩ := blk1 hL2
    obtain ⟨f0, f0', _⟩ := blk2 hF2
    have hM4 : Fms w4 (w.heap.size + 5) v' ((FL b).take (k + 1)) (xs ++ [.int .i64 x.2.kind, .slice ao' x.2.body.length c']) := by
      rw [FL_snoc hx]
      exact hM3.snoc (f := x.2) (m := W0.heap.size) (hO2.below hb3) hH.nil (fun n hn hu => by
        rcases hu with hu | ⟨i, u, hu, hn'⟩
        · exact (hvb n hu).2
        · exact (hM0.it.body hu hn').2) (by omega) ho3 hg3 hw3 (by simp; omega)
    have hne1 : ¬ (W.heap.size = w.heap.size) := by omega
    have hne2 : ¬ (w.heap.size = W.heap.size) := by omega
    have hne3 : ¬ (W.heap.size = w.heap.size + 1) := by omega
    have hsz := size_any ao' x.2.body.length c' (w4.setCell ⟨w.heap.size, 0, none⟩ v') (by omega)
    have hE : Only (Turns (ScanD w.heap.size) W0.heap.size ao' x.2.body.length c') W2 ((w4.setCell ⟨w.heap.size, 0, none⟩ v').setCell ⟨w.heap.size + 1, 0, none⟩ (.int .i64 ((x.1 : Int) + (9 + (x.2.body.length : Int))))) ∧ ScanI w b (k + 1) ((w4.setCell ⟨w.heap.size, 0, none⟩ v').setCell ⟨w.heap.size + 1, 0, none⟩ (.int .i64 ((x.1 : Int) + (9 + (x.2.body.length : Int))))) := by
      have oa : Only (fun j => j = w.heap.size ∨ j = w.heap.size + 1) w4 ((w4.setCell ⟨w.heap.size, 0, none⟩ v').setCell ⟨w.heap.size + 1, 0, none⟩ (.int .i64 ((x.1 : Int) + (9 + (x.2.body.length : Int))))) := ((Only.refl _ w4).setCell ⟨w.heap.size, 0, none⟩ v' (fun _ => .inl rfl)).setCell ⟨w.heap.size + 1, 0, none⟩ _ (fun _ => .inr rfl)
      have og : Only (fun j => v.ownBlock = some j) W2 w4 := ((Only.ofBelow hb3).mono (fun _ _ d => d.elim)).trans (Only.ofGrown hg3) (fun _ _ h => h)
      refine ⟨(og.mono (fun j _ e => .inl ⟨.inr (.inr (hvb j e).1), (hvb j e).2⟩)).trans oa (fun j _ e => ?_), v', _, ?_, ?_, hM4.only oa (fun j hj _ e => by omega), ?_, ?_⟩
      · rcases e with rfl | rfl
        · exact .inl ⟨.inl rfl, by omega⟩
        · exact .inl ⟨.inr (.inl rfl), by omega⟩
      · rw [heap_setCell_other _ _ _ _ (by simp)]; exact one_set hL4
      · have hp1 : place (frs b 0) (k + 1) = x.1 + 9 + x.2.body.length := by simp [place, hx]
        rw [one_set ((heap_setCell_other _ _ _ _ (by simp)).trans hG4), hp1, show ((x.1 + 9 + x.2.body.length : Nat) : Int) = (x.1 : Int) + (9 + (x.2.body.length : Int)) by omega]
      · exact Below.only (Below.only hB2 og hB2.size (fun j e => by have := (hvb j e).1; omega)) oa (by omega) (by omega)
      · have := oa.size; omega
    subst hv4
    subst hv3
    have HE := hide hE
    clear hE hM0 hM2 hM3 hM4 hO2 hB2 hb3 ho3 hg3 hw3 hvb k4 hL2 hG2 hF2 hL4 hG4 hF4 i1 i2 i3 i4 hoX hnF hbX bX0 hH hbW0 hx m1 m2 m3 ho2 hI0 n1' n2' n3
    refine wpIn_block (wpIn_seq (plain_in (by kernel_rfl) (fun _ _ h => h) ?_))
    go_wp2_with (at_builtin; refine wpList_turn (OP := Op.call { callee := Callee.builtin Builtin.append, args := #[Operand.tmp 15, Operand.tmp 17], argTypes := #[24, 24] }) (T := 24) (w' := w4) rfl rfl rfl (exec_append rfl rfl hr3) ?_)
    try simp only [Exit.then, Act.put, List.setIfInBounds_toArray, List.set_cons_zero, List.set_cons_succ]
    gi_wp2_with (refine ⟨trivial, ?_⟩; gi_at_call 16; refine (CallsIn.inRound _ (callsIn_wide.2 hsz)).mono ?_; rintro e w6 ⟨rfl, rfl⟩)
    exact HE.out
  case hdone =>
    intro W hi hls hK
    obtain ⟨v, xs, i1, i2, i3, i4, i5⟩ := hi
    rw [place_end] at i2
    rw [List.take_of_length_le (by rw [FL_length]; exact Nat.le_refl _)] at i3
    rw [hs3] at hK hls
    obtain ⟨l1, _, _⟩ := blk1 i1
    obtain ⟨g1, _, _⟩ := blk1 i2
    obtain ⟨hf1, hf2⟩ := fend_le (b := b) 0 (by omega)
    have hfe := fend_end b 0
    have hfin : ∀ w', Below W.heap.size W w' → Hid (w'.heap[w.heap.size + 3]? = some (.deferred (some [])) ∧ Fms (w'.putObj (w.heap.size + 3) (.deferred none)) w.heap.size v (FL b) xs ∧ Below w.heap.size w (w'.putObj (w.heap.size + 3) (.deferred none))) := fun w' hb => by
      have ho := only_putObj w' (w.heap.size + 3) (.deferred none)
      have hM := (i3.below hb).only ho (fun j hj _ e => by omega)
      refine hide ⟨(hb.block _ hls).trans hK, ⟨hM.row, fun n hn => by have := hM.lo n hn; omega, ⟨hM.it.len, fun i f hf => by obtain ⟨a1, a2, a3, a4, a5, a6⟩ := hM.it.get i f hf; exact ⟨a1, a2, a3, a4, a5.lift (by omega), a6⟩, hM.it.apart⟩, hM.off⟩, Below.only (i4.trans (hb.mono i4.size)) ho (Nat.le_trans i4.size hb.size) (by intro j e; omega)⟩
    by_cases hend : fend b 0 = b.length
    · have hen : ends b = 0 := by rw [ends, if_pos hend]
      have hd1 : ((fend b 0 : Int) == (b.length : Int)) = true := by simp; omega
      have hd2 : (fend b 0 == b.length) = true := by simpa using hend
      have hd3 : decide (fend b 0 = b.length) = true := by simpa using hend
      have HX := hide (And.intro hen hend)
      have hfq := fun n => hfin (W.drewN n) (below_drew W n)
      clear hen hend hfin i1 i2 i3 i4 hK
      go_wp2
      go_quiet (fail)
      go_wp2
      try rw [hs3]
      refine leave_mark (fn := Try.f6) (hfq nq).out.1 (leave_none (results_tmp3 rfl _ _ _) ?_)
      exact ⟨v, xs, by rw [HX.out.1]; rfl, (hfq nq).out.2.1, (hfq nq).out.2.2⟩
    · have hlt : fend b 0 < b.length := by omega
      have hw : why (b.drop (fend b 0)) ≠ 0 := fun e => hfe ⟨hlt, e⟩
      have hen : ends b = why (b.drop (fend b 0)) := by rw [ends, if_neg hend]
      obtain ⟨y, hy⟩ : ∃ y, b[fend b 0]? = some y := ⟨_, List.getElem?_eq_getElem hlt⟩
      have hbs := H.out.below i4
      obtain ⟨ab, off, rfl, _⟩ := hbs.rd.at hy
      have hcap := hbs.cap
      have hbp := hbs.from (i := fend b 0) (by omega)
      have hdl : (b.drop (fend b 0)).length = b.length - fend b 0 := by simp
      have hf := first_any hbp (by rw [hdl]; omega)
      rw [hdl, sub_some (by omega)] at hf
      have hf1 : Calls Try.prog 18 #[.slice (some ⟨ab, off + fend b 0, none⟩) (b.length - fend b 0) (c - fend b 0)] W fun e w' => e = .returned (.tuple #[frv 0 none 0 0, .int .i64 (ends b : Nat)]) ∧ Below W.heap.size W w' := hf.mono (by
        rintro e w' ⟨hF | hF, hb⟩
        · exact ⟨by rw [hen]; exact hF.2, hb⟩
        · exact (hw hF.1).elim)
      obtain ⟨p, hp⟩ : ∃ p, p = fend b 0 := ⟨_, rfl⟩
      rw [← hp] at hf1 hlt hend g1
      have HP := hide hp
      have hd1 : ((p : Int) == (b.length : Int)) = false := by simp; omega
      have hd2 : (p == b.length) = false := by simpa using hend
      have hd3 : decide (p = b.length) = false := by simpa using hend
      have hp1 : (p : Int) ≤ (b.length : Int) := by omega
      have hp2 : (b.length : Int) ≤ (c : Int) := by omega
      have hpc : ¬ c = p := by omega
      have hfq : ∀ w2 n, Below W.heap.size W w2 → _ := fun w2 n hb => hfin ((w2.alloc (.cells #[.int .i64 0, .slice none 0 0] 36)).drewN n) ((hb.alloc hb.size _).trans ((below_drew _ n).mono (by simp; have := hb.size; omega)))
      have hl3 : ∀ w2, Below W.heap.size W w2 → (w2.alloc (.cells #[.int .i64 0, .slice none 0 0] 36)).cell? ⟨w.heap.size, 0, none⟩ = some v ∧ (w2.alloc (.cells #[.int .i64 0, .slice none 0 0] 36)).cell? ⟨w.heap.size + 1, 0, none⟩ = some (.int .i64 (p : Int)) := fun w2 hb => by
        have hb' := hb.alloc hb.size (.cells #[.int .i64 0, .slice none 0 0] 36)
        exact ⟨(hb'.cell (World.block_lt_of_cell? _ _ l1)).trans l1, (hb'.cell (World.block_lt_of_cell? _ _ g1)).trans g1⟩
      clear hp hen hw hfe hf hbp hbs hfin i1 i2 i3 i4 hK hy hf2
      go_wp2_with (go_at_call 18; refine hf1.mono ?_; rintro e w2 ⟨rfl, b2⟩; obtain ⟨l3, g3⟩ := hl3 w2 b2)
      have hq := fun n => hfq w2 n b2
      clear hfq hl3 hf1
      go_quiet (fail)
      go_wp2
      try rw [hs3]
      refine leave_mark (fn := Try.f6) (hq nq).out.1 (leave_none (results_tmp3 rfl _ _ _) ?_)
      exact ⟨v, xs, by rw [← HP.out]; rfl, (hq nq).out.2.1, (hq nq).out.2.2⟩

set_option maxHeartbeats 400000 in
set_option maxRecDepth 100000 in
/-- All: a copy of the bytes lies in a box of its own. -/
theorem all_any {w : World} {ao : Option Addr} {c : Nat} {b : List Int} (h : Bs w ao c b) (hlen : b.length ≤ 1000000) :
    Calls Try.prog 9 #[.slice ao b.length c] w fun e w' => ∃ L ao' c', e = .returned (.func (.func 27) #[] #[.pointer (some ⟨L, 0, none⟩)]) ∧ BAt w' L ao' c' b ∧ w.heap.size ≤ L ∧ (∀ a, ao' = some a → w.heap.size ≤ a.block ∧ a.block < w'.heap.size) ∧ Below w.heap.size w w' := by
  have h1 := clone_any ao c b w h.rd h.nil (by omega)
  have hu := h.u8
  go_enter Try.func9, Try.ntmps9
  go_wp2_with (first
    | (go_at_call 20; refine h1.mono ?_; rintro e w1 ⟨ao1, c1, rfl, ho, hn, hb⟩; have h2 := over_any ao1 b.length c1 w1)
    | (go_at_call 17; refine h2.mono ?_; rintro e w2 ⟨rfl, rfl⟩))
  go_ret
  have hb2 : Below w1.heap.size w1 (w1.alloc (.cells #[.slice ao1 b.length c1] 22)) := (Below.refl _ w1).alloc (Nat.le_refl _) _
  refine ⟨w1.heap.size, ao1, c1, rfl, ⟨(blk1 (heap_alloc_new w1 _)).1, ⟨ho.rd.below hb2, ho.cap.1, hn, hu⟩⟩, hb.size, fun a ha => ?_, hb.trans (hb2.mono hb.size)⟩
  have := ho.blk a ha
  simp
  omega

/-- What One answers. -/
def Ones (w w' : World) (b : List Int) (e : Ending) : Prop :=
  (¬ (why b = 0 ∧ 9 + (fst b).body.length = b.length) ∧ e = .returned (.tuple #[frv 0 none 0 0, .int .i64 4])) ∨
  ((why b = 0 ∧ 9 + (fst b).body.length = b.length) ∧ ∃ ao c, e = .returned (.tuple #[frv (fst b).kind ao (fst b).body.length c, .int .i64 0]) ∧ Own 5 w' w.heap.size (.slice ao (fst b).body.length c) (fst b).body)

set_option maxHeartbeats 600000 in
set_option maxRecDepth 100000 in
theorem one_any {w : World} {ao : Option Addr} {c : Nat} {b : List Int} (h : Bs w ao c b) (hlen : b.length ≤ 1000000) :
    Calls Try.prog 11 #[.slice ao b.length c] w fun e w' => Ones w w' b e ∧ Below w.heap.size w w' := by
  have hb1 : Below w.heap.size w (w.alloc (.cells #[.int .i64 0, .slice none 0 0] 36)) := (Below.refl _ w).alloc (Nat.le_refl _) _
  have hR1 := heap_alloc_new w (.cells #[.int .i64 0, .slice none 0 0] 36)
  have hs1 : (w.alloc (.cells #[.int .i64 0, .slice none 0 0] 36)).heap.size = w.heap.size + 1 := by simp
  have hf := first_any (h.below hb1) (by omega)
  generalize hW : w.alloc (.cells #[.int .i64 0, .slice none 0 0] 36) = W at hb1 hR1 hs1 hf
  by_cases hw : why b = 0
  · have hf2 : Calls Try.prog 18 #[.slice ao b.length c] W fun e w' => (∃ A C, e = .returned (.tuple #[frv (fst b).kind A (fst b).body.length C, .int .i64 0]) ∧ Bs W A C (fst b).body) ∧ Below W.heap.size W w' := hf.mono (by
      rintro e w' ⟨hF | hF, hb⟩
      · exact (hF.1 hw).elim
      · exact ⟨⟨_, _, hF.2.1, hF.2.2⟩, hb⟩)
    have hnx : 9 + (fst b).body.length ≤ b.length := by have := why_zero hw; rw [fst_length hw]; omega
    by_cases hone : 9 + (fst b).body.length = b.length
    · have HO := hide (And.intro hw hone)
      have hd1 : ((9 : Int) + ((fst b).body.length : Int) == (b.length : Int)) = true := by simp; omega
      have hd2 : ((9 : Int) + ((fst b).body.length : Int) != (b.length : Int)) = false := by simp; omega
      have hd3 : decide ((9 : Int) + ((fst b).body.length : Int) = (b.length : Int)) = true := by simp; omega
      obtain ⟨y, hy⟩ : ∃ y, y = fst b := ⟨_, rfl⟩
      rw [← hy] at hf2 hnx hone hd1 hd2 hd3
      have HY := hide hy
      have hsz : ∀ A C w2, Calls Try.prog 16 #[.slice A y.body.length C] w2 _ := fun A C w2 => size_any A y.body.length C w2 (by omega)
      have htold : ∀ A C w2, Bs W A C y.body → Below W.heap.size W w2 → (w2.alloc (.cells #[.int .i64 y.kind, .slice A y.body.length C] 36)).cell? ⟨w2.heap.size, 1, none⟩ = some (.slice A y.body.length C) ∧ Calls Try.prog 21 #[frv y.kind A y.body.length C] (w2.alloc (.cells #[.int .i64 y.kind, .slice A y.body.length C] 36)) fun e w' => ∃ ao' c', e = .returned (frv y.kind ao' y.body.length c') ∧ Hid (Own 5 w' (w.heap.size + 1) (.slice ao' y.body.length c') y.body ∧ Below w.heap.size w w' ∧ w'.heap[w.heap.size]? = some (.cells #[.int .i64 0, .slice none 0 0] 36 (0, 0))) ∧ w'.cell? ⟨w.heap.size, 0, none⟩ = some (.int .i64 0) ∧ w'.cell? ⟨w.heap.size, 1, none⟩ = some (.slice none 0 0) ∧ w'.frozen? ⟨w.heap.size, 0, none⟩ = false ∧ w'.frozen? ⟨w.heap.size, 1, none⟩ = false := fun A C w2 hbs hb2 => by
        have hb3 : Below w2.heap.size w2 (w2.alloc (.cells #[.int .i64 y.kind, .slice A y.body.length C] 36)) := (Below.refl _ w2).alloc (Nat.le_refl _) _
        refine ⟨(blk2 (heap_alloc_new w2 _)).2.1, (told_any y.kind A C y.body _ ((hbs.below hb2).below hb3).rd hbs.nil (by omega)).mono ?_⟩
        rintro e w' ⟨ao', c', rfl, ho, hn', hb4⟩
        have b24 := hb2.trans (hb3.mono hb2.size)
        have b4 := b24.trans (hb4.mono b24.size)
        have hr := (b4.block w.heap.size (by omega)).trans hR1
        have := b24.size
        exact ⟨ao', c', rfl, hide ⟨ho.lift (by omega), hb1.trans (b4.mono (by omega)), hr⟩, blk2 hr⟩
      clear hf hw hone hy h
      go_enter Try.func11, Try.ntmps11
      go_upto_region 1 with (fail)
      try rw [hW]
      clear hW
      go_wp2_with (first
        | (go_at_call 18; refine hf2.mono ?_; rintro e w2 ⟨⟨A, C, rfl, hbs⟩, b2⟩; obtain ⟨hc2, ht⟩ := htold A C w2 hbs b2)
        | (go_at_call 16; refine (hsz A C _).mono ?_; rintro e w3 ⟨rfl, rfl⟩)
        | (go_at_call 21; refine ht.mono ?_; rintro e w4 ⟨ao', c', rfl, HT, c0, c1, f0, f1⟩))
      refine ret_row_tmp w.heap.size [.int .i64 y.kind, .slice ao' y.body.length c'] rfl rfl rfl Try.underlying36 rfl (by kernel_rfl) (t := 36) (fr := (0, 0)) (two_set HT.out.2.2) rfl ?_
      have ho := two_only w4 w.heap.size (.int .i64 y.kind) (.slice ao' y.body.length c')
      refine ⟨.inr ⟨HO.out, ao', c', by rw [← HY.out]; rfl, ?_⟩, Below.only HT.out.2.1 ho HT.out.2.1.size (by intro j e; omega)⟩
      rw [← HY.out]
      exact (ho.own HT.out.1 (fun j hj e => by have := (own_new HT.out.1 j hj).1; omega)).lift (by omega)
    · have HO : Hid (¬ (why b = 0 ∧ 9 + (fst b).body.length = b.length)) := hide (fun h => hone h.2)
      have hd1 : ((9 : Int) + ((fst b).body.length : Int) == (b.length : Int)) = false := by simp; omega
      have hd2 : ((9 : Int) + ((fst b).body.length : Int) != (b.length : Int)) = true := by simp; omega
      have hd3 : decide ((9 : Int) + ((fst b).body.length : Int) = (b.length : Int)) = false := by simp; omega
      have hRet : ∀ (w4 : World) (fn : Func) (a : Act), Hid (Below w.heap.size w w4 ∧ w4.heap[w.heap.size]? = some (.cells #[.int .i64 0, .slice none 0 0] 36 (0, 0))) → fn.results = #[.cell 2 36, .tmp 3] → a.tmps.getD 2 undef = .pointer (some ⟨w.heap.size, 0, none⟩) → a.tmps.getD 3 undef = .int .i64 4 → a.defers = [] →
          bodyPost Try.prog fn (fun e w' => Ones w w' b e ∧ Below w.heap.size w w') .ret a ((w4.setCell ⟨w.heap.size, 0, none⟩ (.int .i64 0)).setCell ⟨w.heap.size, 1, none⟩ (.slice none 0 0)) := fun w4 fn a HB hres h2 h3 hd => by
        obtain ⟨q1, q2⟩ := HB.out
        refine ret_row_tmp w.heap.size [.int .i64 0, .slice none 0 0] hres h2 h3 Try.underlying36 rfl (by kernel_rfl) (t := 36) (fr := (0, 0)) (two_set q2) hd ?_
        exact ⟨.inl ⟨HO.out, rfl⟩, Below.only q1 (two_only _ _ _ _) q1.size (by intro j e; omega)⟩
      have hK : ∀ (o : Obj) w2, Below W.heap.size W w2 → Hid (Below w.heap.size w (w2.alloc o) ∧ (w2.alloc o).heap[w.heap.size]? = some (.cells #[.int .i64 0, .slice none 0 0] 36 (0, 0))) ∧ (w2.alloc o).cell? ⟨w.heap.size, 0, none⟩ = some (.int .i64 0) ∧ (w2.alloc o).cell? ⟨w.heap.size, 1, none⟩ = some (.slice none 0 0) ∧ (w2.alloc o).frozen? ⟨w.heap.size, 0, none⟩ = false ∧ (w2.alloc o).frozen? ⟨w.heap.size, 1, none⟩ = false := fun o w2 hb => by
        have hb' := hb.alloc hb.size o
        have hr := (hb'.block w.heap.size (by omega)).trans hR1
        exact ⟨hide ⟨hb1.trans (hb'.mono (by omega)), hr⟩, blk2 hr⟩
      obtain ⟨y, hy⟩ : ∃ y, y = fst b := ⟨_, rfl⟩
      rw [← hy] at hf2 hnx hone hd1 hd2 hd3
      have hsz : ∀ A C w2, Calls Try.prog 16 #[.slice A y.body.length C] w2 _ := fun A C w2 => size_any A y.body.length C w2 (by omega)
      clear hf hw hone hy h hnx
      go_enter Try.func11, Try.ntmps11
      go_upto_region 1 with (fail)
      try rw [hW]
      clear hW
      go_wp2_with (first
        | (go_at_call 18; refine hf2.mono ?_; rintro e w2 ⟨⟨A, C, rfl, hbs⟩, b2⟩; obtain ⟨HB, c0, c1, f0, f1⟩ := hK (.cells #[.int .i64 y.kind, .slice A y.body.length C] 36) w2 b2; have hc2 := (blk2 (heap_alloc_new w2 (.cells #[.int .i64 y.kind, .slice A y.body.length C] 36))).2.1)
        | (go_at_call 16; refine (hsz A C _).mono ?_; rintro e w3 ⟨rfl, rfl⟩))
      exact hRet _ _ _ HB rfl rfl rfl rfl
  · have hf1 : Calls Try.prog 18 #[.slice ao b.length c] W fun e w' => e = .returned (.tuple #[frv 0 none 0 0, .int .i64 (why b : Nat)]) ∧ Below W.heap.size W w' := hf.mono (by
      rintro e w' ⟨hF | hF, hb⟩
      · exact ⟨hF.2, hb⟩
      · exact (hw hF.1).elim)
    have HO : Hid (¬ (why b = 0 ∧ 9 + (fst b).body.length = b.length)) := hide (fun h => hw h.1)
    have hRet : ∀ (w4 : World) (fn : Func) (a : Act), Hid (Below w.heap.size w w4 ∧ w4.heap[w.heap.size]? = some (.cells #[.int .i64 0, .slice none 0 0] 36 (0, 0))) → fn.results = #[.cell 2 36, .tmp 3] → a.tmps.getD 2 undef = .pointer (some ⟨w.heap.size, 0, none⟩) → a.tmps.getD 3 undef = .int .i64 4 → a.defers = [] →
        bodyPost Try.prog fn (fun e w' => Ones w w' b e ∧ Below w.heap.size w w') .ret a ((w4.setCell ⟨w.heap.size, 0, none⟩ (.int .i64 0)).setCell ⟨w.heap.size, 1, none⟩ (.slice none 0 0)) := fun w4 fn a HB hres h2 h3 hd => by
      obtain ⟨q1, q2⟩ := HB.out
      refine ret_row_tmp w.heap.size [.int .i64 0, .slice none 0 0] hres h2 h3 Try.underlying36 rfl (by kernel_rfl) (t := 36) (fr := (0, 0)) (two_set q2) hd ?_
      exact ⟨.inl ⟨HO.out, rfl⟩, Below.only q1 (two_only _ _ _ _) q1.size (by intro j e; omega)⟩
    have hK : ∀ (o : Obj) w2, Below W.heap.size W w2 → Hid (Below w.heap.size w (w2.alloc o) ∧ (w2.alloc o).heap[w.heap.size]? = some (.cells #[.int .i64 0, .slice none 0 0] 36 (0, 0))) ∧ (w2.alloc o).cell? ⟨w.heap.size, 0, none⟩ = some (.int .i64 0) ∧ (w2.alloc o).cell? ⟨w.heap.size, 1, none⟩ = some (.slice none 0 0) ∧ (w2.alloc o).frozen? ⟨w.heap.size, 0, none⟩ = false ∧ (w2.alloc o).frozen? ⟨w.heap.size, 1, none⟩ = false := fun o w2 hb => by
      have hb' := hb.alloc hb.size o
      have hr := (hb'.block w.heap.size (by omega)).trans hR1
      exact ⟨hide ⟨hb1.trans (hb'.mono (by omega)), hr⟩, blk2 hr⟩
    obtain ⟨n, hn⟩ : ∃ n, n = why b := ⟨_, rfl⟩
    rw [← hn] at hf1 hw
    have hd3 : ((n : Int) == 0) = false := by simp; omega
    have hd4 : ((n : Int) != 0) = true := by simp; omega
    have hd5 : (n == 0) = false := by simpa using hw
    have hd6 : decide (n = 0) = false := by simpa using hw
    clear hf hn h
    go_enter Try.func11, Try.ntmps11
    go_upto_region 1 with (fail)
    try rw [hW]
    clear hW
    go_wp2_with (go_at_call 18; refine hf1.mono ?_; rintro e w2 ⟨rfl, b2⟩; obtain ⟨HB, c0, c1, f0, f1⟩ := hK (.cells #[.int .i64 0, .slice none 0 0] 36) w2 b2)
    exact hRet _ _ _ HB rfl rfl rfl rfl
end Go.Proofs.Ytmabfaldndlneaa
