/-
  DOCTN: the document's taking out of bytes.
-/
import Derived.Test.YtkjabnpniingnaaGreatDoorDocTB
namespace Go.Proofs.YtkjabnpniingnaaGreatDoor
open Go.RowKit Go.Shelf
set_option linter.unusedSimpArgs false

variable {T : Nat}
set_option maxHeartbeats 4000000 in
set_option maxRecDepth 100000 in
theorem takeDN_any (D : Nat) (LB l : List Int) (w : World) (hD : Doc T w D LB l) : Calls Tryz.prog 38 #[.pointer (some ⟨D, 0, none⟩)] w fun e w' => e = .returned (.tuple #[.agg #[.int .i64 (tkN0 l), .string (tkN1 l), .int .i64 (tkN2 l)], .int .i64 (if tkNV l then 0 else 4)]) ∧ Doc T w' D LB (tkNL l) ∧ Only (fun j => j = D) w w' := by
  have hlt := hD.lt
  have hDc := hD
  obtain ⟨bo0, cap0, at1, hh0, _, _, _, _, hLB, _, h8, hat1, hl1⟩ := hDc
  have hl8 : ∀ y ∈ l, 0 ≤ y ∧ y ≤ 255 := fun y hy => h8 y (by rw [hl1] at hy; exact List.mem_of_mem_drop hy)
  obtain ⟨hVe, hVv⟩ := dN_eq hl8
  have hlen2 := dnP_len l
  have hn := heap_alloc_new w (.cells #[.int .i64 0, .string ⟨#[]⟩, .int .i64 0] 25)
  have hz0 : w.heap.size < (w.alloc (.cells #[.int .i64 0, .string ⟨#[]⟩, .int .i64 0] 25)).heap.size := by simp
  have HO0 : Hid (Only (fun j => j = D) w (w.alloc (.cells #[.int .i64 0, .string ⟨#[]⟩, .int .i64 0] 25))) := hide (Only.alloc (Only.refl _ _) _)
  obtain ⟨d0, d1, _, _⟩ := blk2 ((Below.heap_alloc w (.cells #[.int .i64 0, .string ⟨#[]⟩, .int .i64 0] 25) D hlt).trans hh0)
  obtain ⟨PV, hPV⟩ : ∃ PV, PV = tkNV l := ⟨_, rfl⟩
  obtain ⟨E0, hE0⟩ : ∃ E0 : Int, E0 = (if tkNV l then 0 else 4) := ⟨_, rfl⟩
  obtain ⟨A0, hA0⟩ : ∃ A0, A0 = tkN0 l := ⟨_, rfl⟩
  obtain ⟨A1, hA1⟩ : ∃ A1, A1 = tkN1 l := ⟨_, rfl⟩
  obtain ⟨A2, hA2⟩ : ∃ A2, A2 = tkN2 l := ⟨_, rfl⟩
  obtain ⟨L0, hL0⟩ : ∃ L0, L0 = tkNL l := ⟨_, rfl⟩
  rw [← hE0, ← hL0, ← hA0, ← hA1, ← hA2]
  have hF : PV = false → A0 = 0 ∧ A1 = ⟨#[]⟩ ∧ A2 = 0 ∧ L0 = l ∧ E0 = 4 := fun h => by rw [h] at hPV; rw [hA0, hA1, hA2, hL0, hE0]; unfold tkN0 tkN1 tkN2 tkNL; rw [← hPV]; exact ⟨rfl, rfl, rfl, rfl, rfl⟩
  have hT : PV = true → A0 = (dnP l).1.1 ∧ A1 = (dnP l).1.2.1 ∧ A2 = (dnP l).1.2.2 ∧ L0 = (dnP l).2 ∧ E0 = 0 := fun h => by
    rw [h] at hPV
    obtain ⟨e0, e1, e2, eL⟩ := hVv hPV.symm
    refine ⟨by rw [hA0, e0], by rw [hA1, e1], by rw [hA2, e2], by rw [hL0, eL], by rw [hE0, ← hPV]; rfl⟩
  rw [← hPV] at hVe
  clear hPV hE0 hL0 hVv hA0 hA1 hA2
  have hv : ∀ W, Calls Tryz.prog 20 #[.agg #[.int .i64 (dnP l).1.1, .string (dnP l).1.2.1, .int .i64 (dnP l).1.2.2]] W fun e w' => e = .returned (.bool (nameV (dnP l).1.1 (dnP l).1.2.1 (dnP l).1.2.2)) ∧ Below W.heap.size W w' := fun W => refName_any (dnP l).1.1 (dnP l).1.2.1 (dnP l).1.2.2 W (label_lenN l)
  have hp : nameV (dnP l).1.1 (dnP l).1.2.1 (dnP l).1.2.2 = true → ∀ W, Calls Tryz.prog 27 #[.agg #[.int .i64 (dnP l).1.1, .string (dnP l).1.2.1, .int .i64 (dnP l).1.2.2]] W fun e w' => Made 5 W w' e (nmL (dnP l).1.1 (dnP l).1.2.1 (dnP l).1.2.2) := fun hv W => by
    have := N_bounds hv
    exact refPutName_any (dnP l).1.1 (dnP l).1.2.1 (dnP l).1.2.2 W (by omega) (by omega) (by omega) (by omega) (by omega)
  obtain ⟨FM, hFM⟩ : ∃ FM, FM = nmL (dnP l).1.1 (dnP l).1.2.1 (dnP l).1.2.2 := ⟨_, rfl⟩
  have hFM8 : nameV (dnP l).1.1 (dnP l).1.2.1 (dnP l).1.2.2 = true → ∀ y ∈ FM, 0 ≤ y ∧ y ≤ 255 := fun _ => by rw [hFM]; exact form8N trivial
  rw [← hFM] at hp hVe
  clear hFM
  have hrd := dname_any D LB l _ (hD.alloc (.cells #[.int .i64 0, .string ⟨#[]⟩, .int .i64 0] 25))
  generalize nameV (dnP l).1.1 (dnP l).1.2.1 (dnP l).1.2.2 = VV at hv hp hVe hFM8
  generalize (dnP l).1.1 = P0 at hv hp hT hrd
  generalize (dnP l).1.2.1 = P1 at hv hp hT hrd
  generalize (dnP l).1.2.2 = P2 at hv hp hT hrd
  generalize (dnP l).2 = l' at hT hVe hlen2 hrd
  have HV := hide (And.intro hVe (And.intro hF hT))
  clear hVe hF hT hD hh0
  go_enter Tryz.func38, Tryz.ntmps38
  go_upto_region 3 with (go_at_call 86; refine hrd.mono ?_; rintro e w1 ⟨rfl, hD1, o1⟩)
  have HDoc := hide (Doc.drew (hD1.alloc (.cells #[.int .i64 P0, .string P1, .int .i64 P2] 25)))
  have HD := hide (Only.drew ((HO0.out.trans' o1).alloc (.cells #[.int .i64 P0, .string P1, .int .i64 P2] 25)))
  have HQ := hide ((Below.heap_alloc w1 (.cells #[.int .i64 P0, .string P1, .int .i64 P2] 25) _ (Nat.lt_of_lt_of_le hz0 o1.size)).trans ((o1.block _ hz0 (by omega)).trans hn))
  have hV0 := heap_alloc_new w1 (.cells #[.int .i64 P0, .string P1, .int .i64 P2] 25)
  have hQV : w.heap.size < w1.heap.size := Nat.lt_of_lt_of_le hz0 o1.size
  generalize w1.alloc (.cells #[.int .i64 P0, .string P1, .int .i64 P2] 25) = W2 at HDoc HD HQ hV0 ⊢
  generalize w1.heap.size = Vb at hV0 hQV ⊢
  clear hD1 o1
  obtain ⟨bo, cap, at2, hh2, hr2, hnil2, hlc2, hcm2, _, hbl2, _, hat2, hl2⟩ := HDoc.out
  have hlen1 : l.length = LB.length - at1 := by rw [hl1]; simp
  have hlen3 : l'.length = LB.length - at2 := by rw [hl2]; simp
  have hle : at1 ≤ at2 := by omega
  obtain ⟨A, hsl, hRA⟩ := slice_rd (n := LB.length) (cap := cap) hr2 rfl hle hat2 hlc2
  obtain ⟨SUB, hSUB⟩ : ∃ SUB, SUB = (LB.drop at1).take (at2 - at1) := ⟨_, rfl⟩
  rw [← hSUB] at hRA
  have hSUBe : SUB = l.take (l.length - l'.length) := by rw [hSUB, ← hl1]; congr 1; omega
  have hsub : SUB.length = at2 - at1 := by rw [hSUB]; simp; omega
  have hSub8 : ∀ y ∈ SUB, 0 ≤ y ∧ y ≤ 255 := fun y hy => hl8 y (by rw [hSUBe] at hy; exact List.mem_of_mem_take hy)
  have hS : W2.drew.heap[Vb]? = some (.cells #[.int .i64 P0, .string P1, .int .i64 P2] 25) ∧ W2.drew.heap[D]? = some (.cells #[.slice bo LB.length cap, .int .i64 (at2 : Int)] 59) ∧ Rd W2.drew A SUB := ⟨hV0, hh2, hRA⟩
  replace HQ : Hid (W2.drew.heap[w.heap.size]? = some (.cells #[.int .i64 0, .string ⟨#[]⟩, .int .i64 0] 25)) := HQ
  have HH := hide (And.intro hl1 (And.intro hat1 (And.intro hLB (And.intro hl2 (And.intro hat2 hSUBe)))))
  have HVV : Hid (PV = (VV && decide (SUB = FM))) := hide (by rw [hSUBe]; exact HV.out.1.symm)
  clear hV0 hh2 hr2 hnil2 hcm2 hbl2 hl2 hl1 hSUB hSUBe hRA hrd h8 hl8 hLB
  cases VV with
  | false =>
    have hpv : PV = false := by rw [HVV.out]; rfl
    clear hp hFM8
    refine wp_region_held_drew (S := (fun w' => w'.heap[Vb]? = some (.cells #[.int .i64 P0, .string P1, .int .i64 P2] 25) ∧ w'.heap[D]? = some (.cells #[.slice bo LB.length cap, .int .i64 (at2 : Int)] 59) ∧ Rd w' A SUB)) (by kernel_rfl) (by exact hS) (fun hHeld => ?_)
    try dsimp only at hHeld
    generalize W2.drew = W3 at hHeld HD HDoc HQ ⊢
    refine take_op (i := 0) (d := 12) (OP := Op.load 25 (Operand.tmp 5)) (T := 25) (v := .agg #[.int .i64 P0, .string P1, .int .i64 P2]) rfl rfl rfl rfl (by kernel_rfl) (by kernel_rfl) (by kernel_rfl) (fun _ _ _ h => h) (by rfl) (fun w' hSw => exec_ld25 rfl hSw.1) hHeld ?_
    try simp only [Act.put, List.setIfInBounds_toArray, List.set_cons_zero, List.set_cons_succ]
    refine call_op (i := 1) (d := 13) (OP := Op.call { callee := Callee.value (Operand.func 20), args := #[Operand.tmp 12], argTypes := #[25] }) (T := 4) (f := 20) (args := #[.agg #[.int .i64 P0, .string P1, .int .i64 P2]]) rfl rfl rfl rfl (by kernel_rfl) (by rfl) (by go_simp) ?_
    refine (hv _).mono ?_
    rintro e q1 ⟨rfl, bb⟩
    have hSq1 : q1.heap[Vb]? = some (.cells #[.int .i64 P0, .string P1, .int .i64 P2] 25) ∧ q1.heap[D]? = some (.cells #[.slice bo LB.length cap, .int .i64 (at2 : Int)] 59) ∧ Rd q1 A SUB := ⟨keptB' bb hHeld.1, keptB' bb hHeld.2.1, hHeld.2.2.below bb⟩
    replace HD := hide (HD.out.trans' ((Only.ofBelow bb).mono (fun _ _ c => c.elim)))
    replace HDoc := hide (HDoc.out.kept (row := none) (grown_of_below bb) (by simp))
    replace HQ := hide (keptB' bb HQ.out)
    clear bb
    refine ⟨_, rfl, hSq1, ?_⟩
    replace hHeld := hSq1
    try simp only [Act.put, List.setIfInBounds_toArray, List.set_cons_zero, List.set_cons_succ]
    refine take_op (i := 2) (d := 14) (OP := Op.unOp UnOp.not 4 (Operand.tmp 13)) (T := 4) (v := ?vy33x) rfl rfl rfl rfl (by kernel_rfl) (by kernel_rfl) (by kernel_rfl) (fun _ _ _ h => h) (by rfl) ?hy33x hHeld ?ry33x
    case hy33x => (intro w' hSw; (try dsimp only at hSw); go_simp <;> with_reducible rfl)
    try simp only [Act.put, List.setIfInBounds_toArray, List.set_cons_zero, List.set_cons_succ]
    refine take_op (i := 3) (d := 15) (OP := Op.move (Operand.tmp 14)) (T := 4) (v := ?vy34x) rfl rfl rfl rfl (by kernel_rfl) (by kernel_rfl) (by kernel_rfl) (fun _ _ _ h => h) (by rfl) ?hy34x hHeld ?ry34x
    case hy34x => (intro w' hSw; (try dsimp only at hSw); go_simp <;> with_reducible rfl)
    try simp only [Act.put, List.setIfInBounds_toArray, List.set_cons_zero, List.set_cons_succ]
    refine pass_op (i := 4) (d := 16) rfl rfl (by kernel_rfl) (by kernel_rfl) (by kernel_rfl) (fun _ _ _ h => h) (by rfl) hHeld ?_
    try simp only [Act.put, List.setIfInBounds_toArray, List.set_cons_zero, List.set_cons_succ]
    refine pass_op (i := 5) (d := 17) rfl rfl (by kernel_rfl) (by kernel_rfl) (by kernel_rfl) (fun _ _ _ h => h) (by rfl) hHeld ?_
    try simp only [Act.put, List.setIfInBounds_toArray, List.set_cons_zero, List.set_cons_succ]
    refine pass_op (i := 6) (d := 18) rfl rfl (by kernel_rfl) (by kernel_rfl) (by kernel_rfl) (fun _ _ _ h => h) (by rfl) hHeld ?_
    try simp only [Act.put, List.setIfInBounds_toArray, List.set_cons_zero, List.set_cons_succ]
    refine pass_op (i := 7) (d := 19) rfl rfl (by kernel_rfl) (by kernel_rfl) (by kernel_rfl) (fun _ _ _ h => h) (by rfl) hHeld ?_
    try simp only [Act.put, List.setIfInBounds_toArray, List.set_cons_zero, List.set_cons_succ]
    refine pass_op (i := 8) (d := 20) rfl rfl (by kernel_rfl) (by kernel_rfl) (by kernel_rfl) (fun _ _ _ h => h) (by rfl) hHeld ?_
    try simp only [Act.put, List.setIfInBounds_toArray, List.set_cons_zero, List.set_cons_succ]
    refine pass_op (i := 9) (d := 21) rfl rfl (by kernel_rfl) (by kernel_rfl) (by kernel_rfl) (fun _ _ _ h => h) (by rfl) hHeld ?_
    try simp only [Act.put, List.setIfInBounds_toArray, List.set_cons_zero, List.set_cons_succ]
    refine pass_op (i := 10) (d := 22) rfl rfl (by kernel_rfl) (by kernel_rfl) (by kernel_rfl) (fun _ _ _ h => h) (by rfl) hHeld ?_
    try simp only [Act.put, List.setIfInBounds_toArray, List.set_cons_zero, List.set_cons_succ]
    refine pass_op (i := 11) (d := 23) rfl rfl (by kernel_rfl) (by kernel_rfl) (by kernel_rfl) (fun _ _ _ h => h) (by rfl) hHeld ?_
    try simp only [Act.put, List.setIfInBounds_toArray, List.set_cons_zero, List.set_cons_succ]
    refine pass_op (i := 12) (d := 24) rfl rfl (by kernel_rfl) (by kernel_rfl) (by kernel_rfl) (fun _ _ _ h => h) (by rfl) hHeld ?_
    try simp only [Act.put, List.setIfInBounds_toArray, List.set_cons_zero, List.set_cons_succ]
    refine pass_op (i := 13) (d := 25) rfl rfl (by kernel_rfl) (by kernel_rfl) (by kernel_rfl) (fun _ _ _ h => h) (by rfl) hHeld ?_
    try simp only [Act.put, List.setIfInBounds_toArray, List.set_cons_zero, List.set_cons_succ]
    refine pass_op (i := 14) (d := 26) rfl rfl (by kernel_rfl) (by kernel_rfl) (by kernel_rfl) (fun _ _ _ h => h) (by rfl) hHeld ?_
    try simp only [Act.put, List.setIfInBounds_toArray, List.set_cons_zero, List.set_cons_succ]
    refine pass_op (i := 15) (d := 27) rfl rfl (by kernel_rfl) (by kernel_rfl) (by kernel_rfl) (fun _ _ _ h => h) (by rfl) hHeld ?_
    try simp only [Act.put, List.setIfInBounds_toArray, List.set_cons_zero, List.set_cons_succ]
    refine pass_op (i := 16) (d := 28) rfl rfl (by kernel_rfl) (by kernel_rfl) (by kernel_rfl) (fun _ _ _ h => h) (by rfl) hHeld ?_
    try simp only [Act.put, List.setIfInBounds_toArray, List.set_cons_zero, List.set_cons_succ]
    refine pass_op (i := 17) (d := 29) rfl rfl (by kernel_rfl) (by kernel_rfl) (by kernel_rfl) (fun _ _ _ h => h) (by rfl) hHeld ?_
    try simp only [Act.put, List.setIfInBounds_toArray, List.set_cons_zero, List.set_cons_succ]
    refine pass_op (i := 18) (d := 30) rfl rfl (by kernel_rfl) (by kernel_rfl) (by kernel_rfl) (fun _ _ _ h => h) (by rfl) hHeld ?_
    try simp only [Act.put, List.setIfInBounds_toArray, List.set_cons_zero, List.set_cons_succ]
    refine take_op (i := 19) (d := 31) (OP := Op.pick (Operand.tmp 15) (Operand.const (Value.bool true)) (Operand.tmp 30)) (T := 4) (v := ?vy50x) rfl rfl rfl rfl (by kernel_rfl) (by kernel_rfl) (by kernel_rfl) (fun _ _ _ h => h) (by rfl) ?hy50x hHeld ?ry50x
    case hy50x => (intro w' hSw; (try dsimp only at hSw); go_simp <;> with_reducible rfl)
    try simp only [Act.put, List.setIfInBounds_toArray, List.set_cons_zero, List.set_cons_succ]
    refine wpAnyH_done (by kernel_rfl) ?_ _
    clear hsl
    generalize hW9 : q1 = W9 at hHeld HD HDoc HQ ⊢
    have HEQ := hide (HV.out.2.1 hpv)
    obtain ⟨y0, y1, yf0, yf1⟩ := blk2 hHeld.2.1
    have HQ2 : Hid ((W9.setCell ⟨D, 1, none⟩ (.int .i64 (at1 : Int))).heap[w.heap.size]? = some (.cells #[.int .i64 0, .string ⟨#[]⟩, .int .i64 0] 25)) := hide (by rw [Below.heap_setCell _ _ _ _ (by show w.heap.size ≠ D; omega)]; exact HQ.out)
    obtain ⟨z0, z1, z2, zf0, zf1, zf2⟩ := blk3 HQ2.out
    have HDo2 := hide (Doc.back0 HDoc.out HH.out.2.1 HH.out.1)
    have HO2 : Hid (Only (fun j => j = D) w (W9.setCell ⟨D, 1, none⟩ (.int .i64 (at1 : Int)))) := hide (HD.out.setCell ⟨D, 1, none⟩ _ (fun _ => rfl))
    clear hHeld HV HVV
    go_wp2
    refine ret_row_tmp w.heap.size [.int .i64 0, .string ⟨#[]⟩, .int .i64 0] rfl rfl rfl Tryz.underlying25 rfl (by kernel_rfl) (t := 25) (fr := (0, 0)) (set3 HQ2.out) rfl ?_
    exact ⟨by rw [(HEQ.out.1), (HEQ.out.2.1), (HEQ.out.2.2.1), (HEQ.out.2.2.2.2)] <;> rfl, by rw [HEQ.out.2.2.2.1]; exact (((HDo2.out.only (by omega) _).only (by omega) _).only (by omega) _), (((HO2.out.fresh (Nat.le_refl _) _).fresh (Nat.le_refl _) _).fresh (Nat.le_refl _) _)⟩
  | true =>
    have hpp := hp rfl
    have hf8 := hFM8 rfl
    clear hp hFM8
    by_cases hsf : SUB = FM
    · have hpv : PV = true := by rw [HVV.out, hsf]; simp
      have HEQ := hide (HV.out.2.2 hpv)
      have hnq : ((strOfNums SUB).toList == (strOfNums FM).toList) = true := by rw [hsf]; simp
      clear HV HVV hpv hf8 hsf hSub8
      refine wp_region_held_drew (S := (fun w' => w'.heap[Vb]? = some (.cells #[.int .i64 P0, .string P1, .int .i64 P2] 25) ∧ w'.heap[D]? = some (.cells #[.slice bo LB.length cap, .int .i64 (at2 : Int)] 59) ∧ Rd w' A SUB)) (by kernel_rfl) (by exact hS) (fun hHeld => ?_)
      try dsimp only at hHeld
      generalize W2.drew = W3 at hHeld HD HDoc HQ ⊢
      refine take_op (i := 0) (d := 12) (OP := Op.load 25 (Operand.tmp 5)) (T := 25) (v := .agg #[.int .i64 P0, .string P1, .int .i64 P2]) rfl rfl rfl rfl (by kernel_rfl) (by kernel_rfl) (by kernel_rfl) (fun _ _ _ h => h) (by rfl) (fun w' hSw => exec_ld25 rfl hSw.1) hHeld ?_
      try simp only [Act.put, List.setIfInBounds_toArray, List.set_cons_zero, List.set_cons_succ]
      refine call_op (i := 1) (d := 13) (OP := Op.call { callee := Callee.value (Operand.func 20), args := #[Operand.tmp 12], argTypes := #[25] }) (T := 4) (f := 20) (args := #[.agg #[.int .i64 P0, .string P1, .int .i64 P2]]) rfl rfl rfl rfl (by kernel_rfl) (by rfl) (by go_simp) ?_
      refine (hv _).mono ?_
      rintro e q1 ⟨rfl, bb⟩
      have hSq1 : q1.heap[Vb]? = some (.cells #[.int .i64 P0, .string P1, .int .i64 P2] 25) ∧ q1.heap[D]? = some (.cells #[.slice bo LB.length cap, .int .i64 (at2 : Int)] 59) ∧ Rd q1 A SUB := ⟨keptB' bb hHeld.1, keptB' bb hHeld.2.1, hHeld.2.2.below bb⟩
      replace HD := hide (HD.out.trans' ((Only.ofBelow bb).mono (fun _ _ c => c.elim)))
      replace HDoc := hide (HDoc.out.kept (row := none) (grown_of_below bb) (by simp))
      replace HQ := hide (keptB' bb HQ.out)
      clear bb
      refine ⟨_, rfl, hSq1, ?_⟩
      replace hHeld := hSq1
      try simp only [Act.put, List.setIfInBounds_toArray, List.set_cons_zero, List.set_cons_succ]
      refine take_op (i := 2) (d := 14) (OP := Op.unOp UnOp.not 4 (Operand.tmp 13)) (T := 4) (v := ?vy51x) rfl rfl rfl rfl (by kernel_rfl) (by kernel_rfl) (by kernel_rfl) (fun _ _ _ h => h) (by rfl) ?hy51x hHeld ?ry51x
      case hy51x => (intro w' hSw; (try dsimp only at hSw); go_simp <;> with_reducible rfl)
      try simp only [Act.put, List.setIfInBounds_toArray, List.set_cons_zero, List.set_cons_succ]
      refine take_op (i := 3) (d := 15) (OP := Op.move (Operand.tmp 14)) (T := 4) (v := ?vy52x) rfl rfl rfl rfl (by kernel_rfl) (by kernel_rfl) (by kernel_rfl) (fun _ _ _ h => h) (by rfl) ?hy52x hHeld ?ry52x
      case hy52x => (intro w' hSw; (try dsimp only at hSw); go_simp <;> with_reducible rfl)
      try simp only [Act.put, List.setIfInBounds_toArray, List.set_cons_zero, List.set_cons_succ]
      refine take_op (i := 4) (d := 16) (OP := Op.move (Operand.tmp 0)) (T := 57) (v := ?vy53x) rfl rfl rfl rfl (by kernel_rfl) (by kernel_rfl) (by kernel_rfl) (fun _ _ _ h => h) (by rfl) ?hy53x hHeld ?ry53x
      case hy53x => (intro w' hSw; (try dsimp only at hSw); go_simp <;> with_reducible rfl)
      try simp only [Act.put, List.setIfInBounds_toArray, List.set_cons_zero, List.set_cons_succ]
      refine take_op (i := 5) (d := 17) (OP := Op.nilCheck (Operand.tmp 16)) (T := 0) (v := .pointer (some ⟨D, 0, none⟩)) rfl rfl rfl rfl (by kernel_rfl) (by kernel_rfl) (by kernel_rfl) (fun _ _ _ h => h) (by rfl) (fun w' _ => exec_nil rfl) hHeld ?_
      try simp only [Act.put, List.setIfInBounds_toArray, List.set_cons_zero, List.set_cons_succ]
      refine take_op (i := 6) (d := 18) (OP := Op.fieldAddr 59 (Operand.tmp 17) 0) (T := 0) (v := .pointer (some ⟨D, 0, none⟩)) rfl rfl rfl rfl (by kernel_rfl) (by kernel_rfl) (by kernel_rfl) (fun _ _ _ h => h) (by rfl) (fun w' _ => exec_fa59_0 rfl) hHeld ?_
      try simp only [Act.put, List.setIfInBounds_toArray, List.set_cons_zero, List.set_cons_succ]
      refine take_op (i := 7) (d := 19) (OP := Op.load 29 (Operand.tmp 18)) (T := 29) (v := .slice bo LB.length cap) rfl rfl rfl rfl (by kernel_rfl) (by kernel_rfl) (by kernel_rfl) (fun _ _ _ h => h) (by rfl) (fun w' hSw => exec_ld29 rfl (blk2 hSw.2.1).1) hHeld ?_
      try simp only [Act.put, List.setIfInBounds_toArray, List.set_cons_zero, List.set_cons_succ]
      refine take_op (i := 8) (d := 20) (OP := Op.move (Operand.tmp 4)) (T := 3) (v := ?vy54x) rfl rfl rfl rfl (by kernel_rfl) (by kernel_rfl) (by kernel_rfl) (fun _ _ _ h => h) (by rfl) ?hy54x hHeld ?ry54x
      case hy54x => (intro w' hSw; (try dsimp only at hSw); go_simp <;> with_reducible rfl)
      try simp only [Act.put, List.setIfInBounds_toArray, List.set_cons_zero, List.set_cons_succ]
      refine take_op (i := 9) (d := 21) (OP := Op.move (Operand.tmp 0)) (T := 57) (v := ?vy55x) rfl rfl rfl rfl (by kernel_rfl) (by kernel_rfl) (by kernel_rfl) (fun _ _ _ h => h) (by rfl) ?hy55x hHeld ?ry55x
      case hy55x => (intro w' hSw; (try dsimp only at hSw); go_simp <;> with_reducible rfl)
      try simp only [Act.put, List.setIfInBounds_toArray, List.set_cons_zero, List.set_cons_succ]
      refine take_op (i := 10) (d := 22) (OP := Op.nilCheck (Operand.tmp 21)) (T := 0) (v := .pointer (some ⟨D, 0, none⟩)) rfl rfl rfl rfl (by kernel_rfl) (by kernel_rfl) (by kernel_rfl) (fun _ _ _ h => h) (by rfl) (fun w' _ => exec_nil rfl) hHeld ?_
      try simp only [Act.put, List.setIfInBounds_toArray, List.set_cons_zero, List.set_cons_succ]
      refine take_op (i := 11) (d := 23) (OP := Op.fieldAddr 59 (Operand.tmp 22) 1) (T := 0) (v := .pointer (some ⟨D, 1, none⟩)) rfl rfl rfl rfl (by kernel_rfl) (by kernel_rfl) (by kernel_rfl) (fun _ _ _ h => h) (by rfl) (fun w' _ => exec_fa59_1 rfl) hHeld ?_
      try simp only [Act.put, List.setIfInBounds_toArray, List.set_cons_zero, List.set_cons_succ]
      refine take_op (i := 12) (d := 24) (OP := Op.load 3 (Operand.tmp 23)) (T := 3) (v := .int .i64 (at2 : Int)) rfl rfl rfl rfl (by kernel_rfl) (by kernel_rfl) (by kernel_rfl) (fun _ _ _ h => h) (by rfl) (fun w' hSw => exec_ld3 rfl (blk2 hSw.2.1).2.1) hHeld ?_
      try simp only [Act.put, List.setIfInBounds_toArray, List.set_cons_zero, List.set_cons_succ]
      refine take_op (i := 13) (d := 25) (OP := Op.slice 29 (Operand.tmp 19) (some (Operand.tmp 20)) (some (Operand.tmp 24)) none) (T := 29) (v := .slice A (at2 - at1) (cap - at1)) rfl rfl rfl rfl (by kernel_rfl) (by kernel_rfl) (by kernel_rfl) (fun _ _ _ h => h) (by rfl) (fun w' _ => exec_slc rfl rfl rfl (hsl w')) hHeld ?_
      try simp only [Act.put, List.setIfInBounds_toArray, List.set_cons_zero, List.set_cons_succ]
      refine take_op (i := 14) (d := 26) (OP := Op.convert 29 9 (Operand.tmp 25)) (T := 9) (v := .string (strOfNums SUB)) rfl rfl rfl rfl (by kernel_rfl) (by kernel_rfl) (by kernel_rfl) (fun _ _ _ h => h) (by rfl) (fun w' hSw => exec_conv2 (v := .slice A (at2 - at1) (cap - at1)) rfl (conv_rd (n := at2 - at1) (cap := cap - at1) hSw.2.2 hsub)) hHeld ?_
      try simp only [Act.put, List.setIfInBounds_toArray, List.set_cons_zero, List.set_cons_succ]
      refine take_op (i := 15) (d := 27) (OP := Op.load 25 (Operand.tmp 5)) (T := 25) (v := .agg #[.int .i64 P0, .string P1, .int .i64 P2]) rfl rfl rfl rfl (by kernel_rfl) (by kernel_rfl) (by kernel_rfl) (fun _ _ _ h => h) (by rfl) (fun w' hSw => exec_ld25 rfl hSw.1) hHeld ?_
      try simp only [Act.put, List.setIfInBounds_toArray, List.set_cons_zero, List.set_cons_succ]
      refine call_op (i := 16) (d := 28) (OP := Op.call { callee := Callee.value (Operand.func 27), args := #[Operand.tmp 27], argTypes := #[25] }) (T := 29) (f := 27) (args := #[.agg #[.int .i64 P0, .string P1, .int .i64 P2]]) rfl rfl rfl rfl (by kernel_rfl) (by rfl) (by go_simp) ?_
      refine (hpp _).mono ?_
      rintro e q2 ⟨ap, cp, rfl, RP0, _, bb⟩
      have RP := RP0.rd
      have hSq2 : q2.heap[Vb]? = some (.cells #[.int .i64 P0, .string P1, .int .i64 P2] 25) ∧ q2.heap[D]? = some (.cells #[.slice bo LB.length cap, .int .i64 (at2 : Int)] 59) ∧ Rd q2 A SUB := ⟨keptB' bb hHeld.1, keptB' bb hHeld.2.1, hHeld.2.2.below bb⟩
      replace HD := hide (HD.out.trans' ((Only.ofBelow bb).mono (fun _ _ c => c.elim)))
      replace HDoc := hide (HDoc.out.kept (row := none) (grown_of_below bb) (by simp))
      replace HQ := hide (keptB' bb HQ.out)
      clear bb
      refine ⟨_, rfl, hSq2, ?_⟩
      replace hHeld := hSq2
      try simp only [Act.put, List.setIfInBounds_toArray, List.set_cons_zero, List.set_cons_succ]
      refine alone_op (i := 17) (d := 29) (OP := Op.convert 29 9 (Operand.tmp 28)) (T := 9) (v := .string (strOfNums FM)) rfl rfl rfl rfl (by kernel_rfl) (by rfl) (exec_conv2 (v := .slice ap FM.length cp) rfl (conv_rd (n := FM.length) (cap := cp) RP rfl)) hHeld ?_
      try simp only [Act.put, List.setIfInBounds_toArray, List.set_cons_zero, List.set_cons_succ]
      refine take_op (i := 18) (d := 30) (OP := Op.binOp BinOp.neq 9 (Operand.tmp 26) (Operand.tmp 29) 9) (T := 4) (v := ?vy56x) rfl rfl rfl rfl (by kernel_rfl) (by kernel_rfl) (by kernel_rfl) (fun _ _ _ h => h) (by rfl) ?hy56x hHeld ?ry56x
      case hy56x => (intro w' hSw; (try dsimp only at hSw); go_simp <;> with_reducible rfl)
      try simp only [Act.put, List.setIfInBounds_toArray, List.set_cons_zero, List.set_cons_succ]
      refine take_op (i := 19) (d := 31) (OP := Op.pick (Operand.tmp 15) (Operand.const (Value.bool true)) (Operand.tmp 30)) (T := 4) (v := ?vy57x) rfl rfl rfl rfl (by kernel_rfl) (by kernel_rfl) (by kernel_rfl) (fun _ _ _ h => h) (by rfl) ?hy57x hHeld ?ry57x
      case hy57x => (intro w' hSw; (try dsimp only at hSw); go_simp <;> with_reducible rfl)
      try simp only [Act.put, List.setIfInBounds_toArray, List.set_cons_zero, List.set_cons_succ]
      refine wpAnyH_done (by kernel_rfl) ?_ _
      clear hsl
      obtain ⟨z0, z1, z2, zf0, zf1, zf2⟩ := blk3 HQ.out
      obtain ⟨y0, y1, y2, _, _, _⟩ := blk3 hHeld.1
      clear hHeld
      go_wp2
      refine ret_row_tmp w.heap.size [.int .i64 P0, .string P1, .int .i64 P2] rfl rfl rfl Tryz.underlying25 rfl (by kernel_rfl) (t := 25) (fr := (0, 0)) (set3 HQ.out) rfl ?_
      exact ⟨by rw [(HEQ.out.1), (HEQ.out.2.1), (HEQ.out.2.2.1), (HEQ.out.2.2.2.2)] <;> rfl, by rw [HEQ.out.2.2.2.1]; exact (((HDoc.out.only (by omega) _).only (by omega) _).only (by omega) _), (((HD.out.fresh (Nat.le_refl _) _).fresh (Nat.le_refl _) _).fresh (Nat.le_refl _) _)⟩
    · have hpv : PV = false := by rw [HVV.out]; simp [hsf]
      have hnq : ((strOfNums SUB).toList == (strOfNums FM).toList) = false := by rw [beq_eq_false_iff_ne, ByteArray.toList_eq, ByteArray.toList_eq]; exact fun h => hsf (strI_inj hSub8 hf8 h)
      clear hf8 hsf hSub8
      refine wp_region_held_drew (S := (fun w' => w'.heap[Vb]? = some (.cells #[.int .i64 P0, .string P1, .int .i64 P2] 25) ∧ w'.heap[D]? = some (.cells #[.slice bo LB.length cap, .int .i64 (at2 : Int)] 59) ∧ Rd w' A SUB)) (by kernel_rfl) (by exact hS) (fun hHeld => ?_)
      try dsimp only at hHeld
      generalize W2.drew = W3 at hHeld HD HDoc HQ ⊢
      refine take_op (i := 0) (d := 12) (OP := Op.load 25 (Operand.tmp 5)) (T := 25) (v := .agg #[.int .i64 P0, .string P1, .int .i64 P2]) rfl rfl rfl rfl (by kernel_rfl) (by kernel_rfl) (by kernel_rfl) (fun _ _ _ h => h) (by rfl) (fun w' hSw => exec_ld25 rfl hSw.1) hHeld ?_
      try simp only [Act.put, List.setIfInBounds_toArray, List.set_cons_zero, List.set_cons_succ]
      refine call_op (i := 1) (d := 13) (OP := Op.call { callee := Callee.value (Operand.func 20), args := #[Operand.tmp 12], argTypes := #[25] }) (T := 4) (f := 20) (args := #[.agg #[.int .i64 P0, .string P1, .int .i64 P2]]) rfl rfl rfl rfl (by kernel_rfl) (by rfl) (by go_simp) ?_
      refine (hv _).mono ?_
      rintro e q1 ⟨rfl, bb⟩
      have hSq1 : q1.heap[Vb]? = some (.cells #[.int .i64 P0, .string P1, .int .i64 P2] 25) ∧ q1.heap[D]? = some (.cells #[.slice bo LB.length cap, .int .i64 (at2 : Int)] 59) ∧ Rd q1 A SUB := ⟨keptB' bb hHeld.1, keptB' bb hHeld.2.1, hHeld.2.2.below bb⟩
      replace HD := hide (HD.out.trans' ((Only.ofBelow bb).mono (fun _ _ c => c.elim)))
      replace HDoc := hide (HDoc.out.kept (row := none) (grown_of_below bb) (by simp))
      replace HQ := hide (keptB' bb HQ.out)
      clear bb
      refine ⟨_, rfl, hSq1, ?_⟩
      replace hHeld := hSq1
      try simp only [Act.put, List.setIfInBounds_toArray, List.set_cons_zero, List.set_cons_succ]
      refine take_op (i := 2) (d := 14) (OP := Op.unOp UnOp.not 4 (Operand.tmp 13)) (T := 4) (v := ?vy58x) rfl rfl rfl rfl (by kernel_rfl) (by kernel_rfl) (by kernel_rfl) (fun _ _ _ h => h) (by rfl) ?hy58x hHeld ?ry58x
      case hy58x => (intro w' hSw; (try dsimp only at hSw); go_simp <;> with_reducible rfl)
      try simp only [Act.put, List.setIfInBounds_toArray, List.set_cons_zero, List.set_cons_succ]
      refine take_op (i := 3) (d := 15) (OP := Op.move (Operand.tmp 14)) (T := 4) (v := ?vy59x) rfl rfl rfl rfl (by kernel_rfl) (by kernel_rfl) (by kernel_rfl) (fun _ _ _ h => h) (by rfl) ?hy59x hHeld ?ry59x
      case hy59x => (intro w' hSw; (try dsimp only at hSw); go_simp <;> with_reducible rfl)
      try simp only [Act.put, List.setIfInBounds_toArray, List.set_cons_zero, List.set_cons_succ]
      refine take_op (i := 4) (d := 16) (OP := Op.move (Operand.tmp 0)) (T := 57) (v := ?vy60x) rfl rfl rfl rfl (by kernel_rfl) (by kernel_rfl) (by kernel_rfl) (fun _ _ _ h => h) (by rfl) ?hy60x hHeld ?ry60x
      case hy60x => (intro w' hSw; (try dsimp only at hSw); go_simp <;> with_reducible rfl)
      try simp only [Act.put, List.setIfInBounds_toArray, List.set_cons_zero, List.set_cons_succ]
      refine take_op (i := 5) (d := 17) (OP := Op.nilCheck (Operand.tmp 16)) (T := 0) (v := .pointer (some ⟨D, 0, none⟩)) rfl rfl rfl rfl (by kernel_rfl) (by kernel_rfl) (by kernel_rfl) (fun _ _ _ h => h) (by rfl) (fun w' _ => exec_nil rfl) hHeld ?_
      try simp only [Act.put, List.setIfInBounds_toArray, List.set_cons_zero, List.set_cons_succ]
      refine take_op (i := 6) (d := 18) (OP := Op.fieldAddr 59 (Operand.tmp 17) 0) (T := 0) (v := .pointer (some ⟨D, 0, none⟩)) rfl rfl rfl rfl (by kernel_rfl) (by kernel_rfl) (by kernel_rfl) (fun _ _ _ h => h) (by rfl) (fun w' _ => exec_fa59_0 rfl) hHeld ?_
      try simp only [Act.put, List.setIfInBounds_toArray, List.set_cons_zero, List.set_cons_succ]
      refine take_op (i := 7) (d := 19) (OP := Op.load 29 (Operand.tmp 18)) (T := 29) (v := .slice bo LB.length cap) rfl rfl rfl rfl (by kernel_rfl) (by kernel_rfl) (by kernel_rfl) (fun _ _ _ h => h) (by rfl) (fun w' hSw => exec_ld29 rfl (blk2 hSw.2.1).1) hHeld ?_
      try simp only [Act.put, List.setIfInBounds_toArray, List.set_cons_zero, List.set_cons_succ]
      refine take_op (i := 8) (d := 20) (OP := Op.move (Operand.tmp 4)) (T := 3) (v := ?vy61x) rfl rfl rfl rfl (by kernel_rfl) (by kernel_rfl) (by kernel_rfl) (fun _ _ _ h => h) (by rfl) ?hy61x hHeld ?ry61x
      case hy61x => (intro w' hSw; (try dsimp only at hSw); go_simp <;> with_reducible rfl)
      try simp only [Act.put, List.setIfInBounds_toArray, List.set_cons_zero, List.set_cons_succ]
      refine take_op (i := 9) (d := 21) (OP := Op.move (Operand.tmp 0)) (T := 57) (v := ?vy62x) rfl rfl rfl rfl (by kernel_rfl) (by kernel_rfl) (by kernel_rfl) (fun _ _ _ h => h) (by rfl) ?hy62x hHeld ?ry62x
      case hy62x => (intro w' hSw; (try dsimp only at hSw); go_simp <;> with_reducible rfl)
      try simp only [Act.put, List.setIfInBounds_toArray, List.set_cons_zero, List.set_cons_succ]
      refine take_op (i := 10) (d := 22) (OP := Op.nilCheck (Operand.tmp 21)) (T := 0) (v := .pointer (some ⟨D, 0, none⟩)) rfl rfl rfl rfl (by kernel_rfl) (by kernel_rfl) (by kernel_rfl) (fun _ _ _ h => h) (by rfl) (fun w' _ => exec_nil rfl) hHeld ?_
      try simp only [Act.put, List.setIfInBounds_toArray, List.set_cons_zero, List.set_cons_succ]
      refine take_op (i := 11) (d := 23) (OP := Op.fieldAddr 59 (Operand.tmp 22) 1) (T := 0) (v := .pointer (some ⟨D, 1, none⟩)) rfl rfl rfl rfl (by kernel_rfl) (by kernel_rfl) (by kernel_rfl) (fun _ _ _ h => h) (by rfl) (fun w' _ => exec_fa59_1 rfl) hHeld ?_
      try simp only [Act.put, List.setIfInBounds_toArray, List.set_cons_zero, List.set_cons_succ]
      refine take_op (i := 12) (d := 24) (OP := Op.load 3 (Operand.tmp 23)) (T := 3) (v := .int .i64 (at2 : Int)) rfl rfl rfl rfl (by kernel_rfl) (by kernel_rfl) (by kernel_rfl) (fun _ _ _ h => h) (by rfl) (fun w' hSw => exec_ld3 rfl (blk2 hSw.2.1).2.1) hHeld ?_
      try simp only [Act.put, List.setIfInBounds_toArray, List.set_cons_zero, List.set_cons_succ]
      refine take_op (i := 13) (d := 25) (OP := Op.slice 29 (Operand.tmp 19) (some (Operand.tmp 20)) (some (Operand.tmp 24)) none) (T := 29) (v := .slice A (at2 - at1) (cap - at1)) rfl rfl rfl rfl (by kernel_rfl) (by kernel_rfl) (by kernel_rfl) (fun _ _ _ h => h) (by rfl) (fun w' _ => exec_slc rfl rfl rfl (hsl w')) hHeld ?_
      try simp only [Act.put, List.setIfInBounds_toArray, List.set_cons_zero, List.set_cons_succ]
      refine take_op (i := 14) (d := 26) (OP := Op.convert 29 9 (Operand.tmp 25)) (T := 9) (v := .string (strOfNums SUB)) rfl rfl rfl rfl (by kernel_rfl) (by kernel_rfl) (by kernel_rfl) (fun _ _ _ h => h) (by rfl) (fun w' hSw => exec_conv2 (v := .slice A (at2 - at1) (cap - at1)) rfl (conv_rd (n := at2 - at1) (cap := cap - at1) hSw.2.2 hsub)) hHeld ?_
      try simp only [Act.put, List.setIfInBounds_toArray, List.set_cons_zero, List.set_cons_succ]
      refine take_op (i := 15) (d := 27) (OP := Op.load 25 (Operand.tmp 5)) (T := 25) (v := .agg #[.int .i64 P0, .string P1, .int .i64 P2]) rfl rfl rfl rfl (by kernel_rfl) (by kernel_rfl) (by kernel_rfl) (fun _ _ _ h => h) (by rfl) (fun w' hSw => exec_ld25 rfl hSw.1) hHeld ?_
      try simp only [Act.put, List.setIfInBounds_toArray, List.set_cons_zero, List.set_cons_succ]
      refine call_op (i := 16) (d := 28) (OP := Op.call { callee := Callee.value (Operand.func 27), args := #[Operand.tmp 27], argTypes := #[25] }) (T := 29) (f := 27) (args := #[.agg #[.int .i64 P0, .string P1, .int .i64 P2]]) rfl rfl rfl rfl (by kernel_rfl) (by rfl) (by go_simp) ?_
      refine (hpp _).mono ?_
      rintro e q2 ⟨ap, cp, rfl, RP0, _, bb⟩
      have RP := RP0.rd
      have hSq2 : q2.heap[Vb]? = some (.cells #[.int .i64 P0, .string P1, .int .i64 P2] 25) ∧ q2.heap[D]? = some (.cells #[.slice bo LB.length cap, .int .i64 (at2 : Int)] 59) ∧ Rd q2 A SUB := ⟨keptB' bb hHeld.1, keptB' bb hHeld.2.1, hHeld.2.2.below bb⟩
      replace HD := hide (HD.out.trans' ((Only.ofBelow bb).mono (fun _ _ c => c.elim)))
      replace HDoc := hide (HDoc.out.kept (row := none) (grown_of_below bb) (by simp))
      replace HQ := hide (keptB' bb HQ.out)
      clear bb
      refine ⟨_, rfl, hSq2, ?_⟩
      replace hHeld := hSq2
      try simp only [Act.put, List.setIfInBounds_toArray, List.set_cons_zero, List.set_cons_succ]
      refine alone_op (i := 17) (d := 29) (OP := Op.convert 29 9 (Operand.tmp 28)) (T := 9) (v := .string (strOfNums FM)) rfl rfl rfl rfl (by kernel_rfl) (by rfl) (exec_conv2 (v := .slice ap FM.length cp) rfl (conv_rd (n := FM.length) (cap := cp) RP rfl)) hHeld ?_
      try simp only [Act.put, List.setIfInBounds_toArray, List.set_cons_zero, List.set_cons_succ]
      refine take_op (i := 18) (d := 30) (OP := Op.binOp BinOp.neq 9 (Operand.tmp 26) (Operand.tmp 29) 9) (T := 4) (v := ?vy63x) rfl rfl rfl rfl (by kernel_rfl) (by kernel_rfl) (by kernel_rfl) (fun _ _ _ h => h) (by rfl) ?hy63x hHeld ?ry63x
      case hy63x => (intro w' hSw; (try dsimp only at hSw); go_simp <;> with_reducible rfl)
      try simp only [Act.put, List.setIfInBounds_toArray, List.set_cons_zero, List.set_cons_succ]
      refine take_op (i := 19) (d := 31) (OP := Op.pick (Operand.tmp 15) (Operand.const (Value.bool true)) (Operand.tmp 30)) (T := 4) (v := ?vy64x) rfl rfl rfl rfl (by kernel_rfl) (by kernel_rfl) (by kernel_rfl) (fun _ _ _ h => h) (by rfl) ?hy64x hHeld ?ry64x
      case hy64x => (intro w' hSw; (try dsimp only at hSw); go_simp <;> with_reducible rfl)
      try simp only [Act.put, List.setIfInBounds_toArray, List.set_cons_zero, List.set_cons_succ]
      refine wpAnyH_done (by kernel_rfl) ?_ _
      clear hsl
      generalize hW9 : q2 = W9 at hHeld HD HDoc HQ ⊢
      have HEQ := hide (HV.out.2.1 hpv)
      obtain ⟨y0, y1, yf0, yf1⟩ := blk2 hHeld.2.1
      have HQ2 : Hid ((W9.setCell ⟨D, 1, none⟩ (.int .i64 (at1 : Int))).heap[w.heap.size]? = some (.cells #[.int .i64 0, .string ⟨#[]⟩, .int .i64 0] 25)) := hide (by rw [Below.heap_setCell _ _ _ _ (by show w.heap.size ≠ D; omega)]; exact HQ.out)
      obtain ⟨z0, z1, z2, zf0, zf1, zf2⟩ := blk3 HQ2.out
      have HDo2 := hide (Doc.back0 HDoc.out HH.out.2.1 HH.out.1)
      have HO2 : Hid (Only (fun j => j = D) w (W9.setCell ⟨D, 1, none⟩ (.int .i64 (at1 : Int)))) := hide (HD.out.setCell ⟨D, 1, none⟩ _ (fun _ => rfl))
      clear hHeld HV HVV
      go_wp2
      refine ret_row_tmp w.heap.size [.int .i64 0, .string ⟨#[]⟩, .int .i64 0] rfl rfl rfl Tryz.underlying25 rfl (by kernel_rfl) (t := 25) (fr := (0, 0)) (set3 HQ2.out) rfl ?_
      exact ⟨by rw [(HEQ.out.1), (HEQ.out.2.1), (HEQ.out.2.2.1), (HEQ.out.2.2.2.2)] <;> rfl, by rw [HEQ.out.2.2.2.1]; exact (((HDo2.out.only (by omega) _).only (by omega) _).only (by omega) _), (((HO2.out.fresh (Nat.le_refl _) _).fresh (Nat.le_refl _) _).fresh (Nat.le_refl _) _)⟩
end Go.Proofs.YtkjabnpniingnaaGreatDoor
