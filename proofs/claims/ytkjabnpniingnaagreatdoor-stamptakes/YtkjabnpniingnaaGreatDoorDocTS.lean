/-
  DOCTS: the document's taking out of bytes.
-/
import Derived.Test.YtkjabnpniingnaaGreatDoorDocTB
namespace Go.Proofs.YtkjabnpniingnaaGreatDoor
open Go.RowKit Go.Shelf
set_option linter.unusedSimpArgs false

variable {T : Nat}
set_option maxHeartbeats 4000000 in
set_option maxRecDepth 100000 in
theorem takeDS_any (D : Nat) (LB l : List Int) (w : World) (hD : Doc T w D LB l) : Calls Tryz.prog 40 #[.pointer (some ⟨D, 0, none⟩)] w fun e w' => e = .returned (.tuple #[.agg #[.int .i64 (tkS0 l), .int .i64 (tkS1 l), .string (tkS2 l), .int .i64 (tkS3 l), .int .i64 (tkS4 l)], .int .i64 (if tkSV l then 0 else 4)]) ∧ Doc T w' D LB (tkSL l) ∧ Only (fun j => j = D) w w' := by
  have hlt := hD.lt
  have hDc := hD
  obtain ⟨bo0, cap0, at1, hh0, _, _, _, _, hLB, _, h8, hat1, hl1⟩ := hDc
  have hl8 : ∀ y ∈ l, 0 ≤ y ∧ y ≤ 255 := fun y hy => h8 y (by rw [hl1] at hy; exact List.mem_of_mem_drop hy)
  obtain ⟨hVe, hVv⟩ := dS_eq hl8
  have hlen2 := dsP_len l
  have hn := heap_alloc_new w (.cells #[.int .i64 0, .int .i64 0, .string ⟨#[]⟩, .int .i64 0, .int .i64 0] 27)
  have hz0 : w.heap.size < (w.alloc (.cells #[.int .i64 0, .int .i64 0, .string ⟨#[]⟩, .int .i64 0, .int .i64 0] 27)).heap.size := by simp
  have HO0 : Hid (Only (fun j => j = D) w (w.alloc (.cells #[.int .i64 0, .int .i64 0, .string ⟨#[]⟩, .int .i64 0, .int .i64 0] 27))) := hide (Only.alloc (Only.refl _ _) _)
  obtain ⟨d0, d1, _, _⟩ := blk2 ((Below.heap_alloc w (.cells #[.int .i64 0, .int .i64 0, .string ⟨#[]⟩, .int .i64 0, .int .i64 0] 27) D hlt).trans hh0)
  obtain ⟨PV, hPV⟩ : ∃ PV, PV = tkSV l := ⟨_, rfl⟩
  obtain ⟨E0, hE0⟩ : ∃ E0 : Int, E0 = (if tkSV l then 0 else 4) := ⟨_, rfl⟩
  obtain ⟨A0, hA0⟩ : ∃ A0, A0 = tkS0 l := ⟨_, rfl⟩
  obtain ⟨A1, hA1⟩ : ∃ A1, A1 = tkS1 l := ⟨_, rfl⟩
  obtain ⟨A2, hA2⟩ : ∃ A2, A2 = tkS2 l := ⟨_, rfl⟩
  obtain ⟨A3, hA3⟩ : ∃ A3, A3 = tkS3 l := ⟨_, rfl⟩
  obtain ⟨A4, hA4⟩ : ∃ A4, A4 = tkS4 l := ⟨_, rfl⟩
  obtain ⟨L0, hL0⟩ : ∃ L0, L0 = tkSL l := ⟨_, rfl⟩
  rw [← hE0, ← hL0, ← hA0, ← hA1, ← hA2, ← hA3, ← hA4]
  have hF : PV = false → A0 = 0 ∧ A1 = 0 ∧ A2 = ⟨#[]⟩ ∧ A3 = 0 ∧ A4 = 0 ∧ L0 = l ∧ E0 = 4 := fun h => by rw [h] at hPV; rw [hA0, hA1, hA2, hA3, hA4, hL0, hE0]; unfold tkS0 tkS1 tkS2 tkS3 tkS4 tkSL; rw [← hPV]; exact ⟨rfl, rfl, rfl, rfl, rfl, rfl, rfl⟩
  have hT : PV = true → A0 = (dsP l).1.1 ∧ A1 = (dsP l).1.2.1 ∧ A2 = (dsP l).1.2.2.1 ∧ A3 = (dsP l).1.2.2.2.1 ∧ A4 = (dsP l).1.2.2.2.2 ∧ L0 = (dsP l).2 ∧ E0 = 0 := fun h => by
    rw [h] at hPV
    obtain ⟨e0, e1, e2, e3, e4, eL⟩ := hVv hPV.symm
    refine ⟨by rw [hA0, e0], by rw [hA1, e1], by rw [hA2, e2], by rw [hA3, e3], by rw [hA4, e4], by rw [hL0, eL], by rw [hE0, ← hPV]; rfl⟩
  rw [← hPV] at hVe
  clear hPV hE0 hL0 hVv hA0 hA1 hA2 hA3 hA4
  have hv : ∀ W, Calls Tryz.prog 18 #[.agg #[.int .i64 (dsP l).1.1, .int .i64 (dsP l).1.2.1, .string (dsP l).1.2.2.1, .int .i64 (dsP l).1.2.2.2.1, .int .i64 (dsP l).1.2.2.2.2]] W fun e w' => e = .returned (.bool (stampV (dsP l).1.1 (dsP l).1.2.1 (dsP l).1.2.2.1 (dsP l).1.2.2.2.1 (dsP l).1.2.2.2.2)) ∧ Below W.heap.size W w' := fun W => refStamp_any (dsP l).1.1 (dsP l).1.2.1 (dsP l).1.2.2.1 (dsP l).1.2.2.2.1 (dsP l).1.2.2.2.2 W (label_lenS l)
  have hp : stampV (dsP l).1.1 (dsP l).1.2.1 (dsP l).1.2.2.1 (dsP l).1.2.2.2.1 (dsP l).1.2.2.2.2 = true → ∀ W, Calls Tryz.prog 23 #[.agg #[.int .i64 (dsP l).1.1, .int .i64 (dsP l).1.2.1, .string (dsP l).1.2.2.1, .int .i64 (dsP l).1.2.2.2.1, .int .i64 (dsP l).1.2.2.2.2]] W fun e w' => Made 5 W w' e (stL (dsP l).1.1 (dsP l).1.2.1 (dsP l).1.2.2.1 (dsP l).1.2.2.2.1 (dsP l).1.2.2.2.2) := fun hv W => by
    have := S_bounds hv
    exact refPut_any (dsP l).1.1 (dsP l).1.2.1 (dsP l).1.2.2.1 (dsP l).1.2.2.2.1 (dsP l).1.2.2.2.2 W (by omega) (by omega) (by omega) (by omega) (by omega) (by omega) (by omega) (by omega) (by omega)
  obtain ⟨FM, hFM⟩ : ∃ FM, FM = stL (dsP l).1.1 (dsP l).1.2.1 (dsP l).1.2.2.1 (dsP l).1.2.2.2.1 (dsP l).1.2.2.2.2 := ⟨_, rfl⟩
  have hFM8 : stampV (dsP l).1.1 (dsP l).1.2.1 (dsP l).1.2.2.1 (dsP l).1.2.2.2.1 (dsP l).1.2.2.2.2 = true → ∀ y ∈ FM, 0 ≤ y ∧ y ≤ 255 := fun _ => by rw [hFM]; exact form8S trivial
  rw [← hFM] at hp hVe
  clear hFM
  have hrd1 := small_any D LB l _ (hD.alloc (.cells #[.int .i64 0, .int .i64 0, .string ⟨#[]⟩, .int .i64 0, .int .i64 0] 27))
  have hrd2 : ∀ W, Doc T W D LB (smP l).2 → Calls Tryz.prog 86 #[.pointer (some ⟨D, 0, none⟩)] W fun e w' => e = .returned (nv (dsP l).1.2.1 (dsP l).1.2.2.1 (dsP l).1.2.2.2.1) ∧ Doc T w' D LB (dnP (smP l).2).2 ∧ Only (fun j => j = D) W w' := fun W h => dname_any D LB _ W h
  have hrd3 : ∀ W, Doc T W D LB (dnP (smP l).2).2 → Calls Tryz.prog 89 #[.pointer (some ⟨D, 0, none⟩)] W fun e w' => e = .returned (.int .i64 (dsP l).1.2.2.2.2) ∧ Doc T w' D LB (dsP l).2 ∧ Only (fun j => j = D) W w' := fun W h => small_any D LB _ W h
  rw [show (smP l).1 = (dsP l).1.1 from rfl] at hrd1
  generalize (dnP (smP l).2).2 = m2 at hrd2 hrd3
  generalize (smP l).2 = m1 at hrd1 hrd2
  generalize stampV (dsP l).1.1 (dsP l).1.2.1 (dsP l).1.2.2.1 (dsP l).1.2.2.2.1 (dsP l).1.2.2.2.2 = VV at hv hp hVe hFM8
  generalize (dsP l).1.1 = P0 at hv hp hT hrd1 hrd2 hrd3
  generalize (dsP l).1.2.1 = P1 at hv hp hT hrd1 hrd2 hrd3
  generalize (dsP l).1.2.2.1 = P2 at hv hp hT hrd1 hrd2 hrd3
  generalize (dsP l).1.2.2.2.1 = P3 at hv hp hT hrd1 hrd2 hrd3
  generalize (dsP l).1.2.2.2.2 = P4 at hv hp hT hrd1 hrd2 hrd3
  generalize (dsP l).2 = l' at hT hVe hlen2 hrd1 hrd2 hrd3
  have HV := hide (And.intro hVe (And.intro hF hT))
  clear hVe hF hT hD hh0
  go_enter Tryz.func40, Tryz.ntmps40
  go_wp2_with (go_at_call 89; refine hrd1.mono ?_; rintro e w1 ⟨rfl, hD1, o1⟩; have HK1 := hide (And.intro hD1 o1); clear hD1 o1)
  have hV1 := heap_alloc_new w1 (.cells #[.int .i64 P0, .int .i64 0, .string ⟨#[]⟩, .int .i64 0, .int .i64 0] 27)
  have hz1 : w.heap.size < w1.heap.size := Nat.lt_of_lt_of_le hz0 HK1.out.2.size
  have key1 : ∀ w2, Doc T w2 D LB m2 → Only (fun j => j = D) (w1.alloc (.cells #[.int .i64 P0, .int .i64 0, .string ⟨#[]⟩, .int .i64 0, .int .i64 0] 27)) w2 → w2.heap[w1.heap.size]? = some (.cells #[.int .i64 P0, .int .i64 0, .string ⟨#[]⟩, .int .i64 0, .int .i64 0] 27) ∧ Doc T (((w2.setCell ⟨w1.heap.size, 1, none⟩ (.int .i64 P1)).setCell ⟨w1.heap.size, 2, none⟩ (.string P2)).setCell ⟨w1.heap.size, 3, none⟩ (.int .i64 P3)) D LB m2 ∧ Only (fun j => j = D) w (((w2.setCell ⟨w1.heap.size, 1, none⟩ (.int .i64 P1)).setCell ⟨w1.heap.size, 2, none⟩ (.string P2)).setCell ⟨w1.heap.size, 3, none⟩ (.int .i64 P3)) ∧ (((w2.setCell ⟨w1.heap.size, 1, none⟩ (.int .i64 P1)).setCell ⟨w1.heap.size, 2, none⟩ (.string P2)).setCell ⟨w1.heap.size, 3, none⟩ (.int .i64 P3)).heap[w1.heap.size]? = some (.cells #[.int .i64 P0, .int .i64 P1, .string P2, .int .i64 P3, .int .i64 0] 27) ∧ (((w2.setCell ⟨w1.heap.size, 1, none⟩ (.int .i64 P1)).setCell ⟨w1.heap.size, 2, none⟩ (.string P2)).setCell ⟨w1.heap.size, 3, none⟩ (.int .i64 P3)).heap[w.heap.size]? = some (.cells #[.int .i64 0, .int .i64 0, .string ⟨#[]⟩, .int .i64 0, .int .i64 0] 27) ∧ w1.heap.size < w2.heap.size := fun w2 q1 q2 => by
    have e1 := (q2.block _ (by simp) (by omega)).trans hV1
    have e2 := (q2.block w.heap.size (by simp; omega) (by omega)).trans ((Below.heap_alloc w1 (.cells #[.int .i64 P0, .int .i64 0, .string ⟨#[]⟩, .int .i64 0, .int .i64 0] 27) _ hz1).trans ((HK1.out.2.block _ hz0 (by omega)).trans hn))
    have e3 : Only (fun j => j = D) w w2 := ((HO0.out.trans' HK1.out.2).alloc (.cells #[.int .i64 P0, .int .i64 0, .string ⟨#[]⟩, .int .i64 0, .int .i64 0] 27)).trans' q2
    refine ⟨e1, ((q1.only (by omega) _).only (by omega) _).only (by omega) _, ((e3.fresh (by omega) _).fresh (by omega) _).fresh (by omega) _, ?_, ?_, by have := q2.size; simp at this; omega⟩
    · simp [World.setCell, Array.getElem?_modify, e1]
    · rw [Below.heap_setCell _ _ _ _ (by show w.heap.size ≠ w1.heap.size; omega), Below.heap_setCell _ _ _ _ (by show w.heap.size ≠ w1.heap.size; omega), Below.heap_setCell _ _ _ _ (by show w.heap.size ≠ w1.heap.size; omega)]; exact e2
  go_wp2_with (go_at_call 86; refine (hrd2 _ (HK1.out.1.alloc _)).mono ?_; rintro e w2 ⟨rfl, hD2, o2⟩; have HK2 := hide (key1 w2 hD2 o2); obtain ⟨x0, x1, x2, x3, x4, xf0, xf1, xf2, xf3, xf4⟩ := blk5 HK2.out.1; clear hD2 o2)
  obtain ⟨W2', hW2'⟩ : ∃ W2', W2' = (((w2.setCell ⟨w1.heap.size, 1, none⟩ (.int .i64 P1)).setCell ⟨w1.heap.size, 2, none⟩ (.string P2)).setCell ⟨w1.heap.size, 3, none⟩ (.int .i64 P3)) := ⟨_, rfl⟩
  rw [← hW2'] at HK2 ⊢
  have key2 : ∀ w3, Doc T w3 D LB l' → Only (fun j => j = D) W2' w3 → w3.heap[w1.heap.size]? = some (.cells #[.int .i64 P0, .int .i64 P1, .string P2, .int .i64 P3, .int .i64 0] 27) ∧ Doc T (w3.setCell ⟨w1.heap.size, 4, none⟩ (.int .i64 P4)) D LB l' ∧ Only (fun j => j = D) w (w3.setCell ⟨w1.heap.size, 4, none⟩ (.int .i64 P4)) ∧ (w3.setCell ⟨w1.heap.size, 4, none⟩ (.int .i64 P4)).heap[w1.heap.size]? = some (.cells #[.int .i64 P0, .int .i64 P1, .string P2, .int .i64 P3, .int .i64 P4] 27) ∧ (w3.setCell ⟨w1.heap.size, 4, none⟩ (.int .i64 P4)).heap[w.heap.size]? = some (.cells #[.int .i64 0, .int .i64 0, .string ⟨#[]⟩, .int .i64 0, .int .i64 0] 27) := fun w3 q1 q2 => by
    obtain ⟨k1, k2, k3, k4, k5, k6⟩ := HK2.out
    have s2 : w2.heap.size = W2'.heap.size := by rw [hW2']; simp [World.setCell]
    have e1 := (q2.block _ (by omega) (by omega)).trans k4
    have e2 := (q2.block w.heap.size (by omega) (by omega)).trans k5
    refine ⟨e1, q1.only (by omega) _, (k3.trans' q2).fresh (by omega) _, ?_, ?_⟩
    · rw [heap_setCell_same _ _ 4 _ 27 _ e1]; rfl
    · rw [Below.heap_setCell _ _ _ _ (by show w.heap.size ≠ w1.heap.size; omega)]; exact e2
  go_upto_region 5 with (go_at_call 89; refine (hrd3 _ HK2.out.2.1).mono ?_; rintro e w3 ⟨rfl, hD3, o3⟩; have HK3 := hide (key2 w3 hD3 o3); obtain ⟨t0, t1, t2, t3, t4, tf0, tf1, tf2, tf3, tf4⟩ := blk5 HK3.out.1; clear hD3 o3)
  have HDoc := hide (Doc.drew HK3.out.2.1)
  have HD := hide (Only.drew HK3.out.2.2.1)
  have HQ := hide HK3.out.2.2.2.2
  have hV0 := HK3.out.2.2.2.1
  have hQV : w.heap.size < w1.heap.size := hz1
  generalize (w3.setCell ⟨w1.heap.size, 4, none⟩ (.int .i64 P4)) = W2 at HDoc HD HQ hV0 ⊢
  clear HK3 HK2 key1 key2 x0 x1 x2 x3 x4 xf0 xf1 xf2 xf3 xf4 t0 t1 t2 t3 t4 tf0 tf1 tf2 tf3 tf4 hV1
  generalize w1.heap.size = Vb at hV0 hQV ⊢
  obtain ⟨bo, cap, at2, hh2, hr2, hnil2, hlc2, hcm2, _, hbl2, _, hat2, hl2⟩ := HDoc.out
  have hlen1 : l.length = LB.length - at1 := by rw [hl1]; simp
  have hlen3 : l'.length = LB.length - at2 := by rw [hl2]; simp
  have hle : at1 ≤ at2 := by omega
  obtain ⟨A, hsl, hRA⟩ := slice_rd (n := LB.length) (cap := cap) hr2 rfl hle hat2 hlc2
  obtain ⟨SUB, hSUB⟩ : ∃ SUB, SUB = (LB.drop at1).take (at2 - at1) := ⟨_, rfl⟩
  rw [← hSUB] at hRA
  have hSUBe : SUB = l.take (l.length - l'.length) := by rw [hSUB, ← hl1]; congr 1; omega
  have hsub : SUB.length = at2 - at1 := by rw [hSUB]; simp; omega
  have hSub8 : ∀ y ∈ SUB, 0 ≤ y ∧ y ≤ 255 := fun y hy => hl8 y (by rw [hSUBe] at hy; exact List.mem_of_mem_take hy)
  have hS : W2.drew.heap[Vb]? = some (.cells #[.int .i64 P0, .int .i64 P1, .string P2, .int .i64 P3, .int .i64 P4] 27) ∧ W2.drew.heap[D]? = some (.cells #[.slice bo LB.length cap, .int .i64 (at2 : Int)] 59) ∧ Rd W2.drew A SUB := ⟨hV0, hh2, hRA⟩
  replace HQ : Hid (W2.drew.heap[w.heap.size]? = some (.cells #[.int .i64 0, .int .i64 0, .string ⟨#[]⟩, .int .i64 0, .int .i64 0] 27)) := HQ
  have HH := hide (And.intro hl1 (And.intro hat1 (And.intro hLB (And.intro hl2 (And.intro hat2 hSUBe)))))
  have HVV : Hid (PV = (VV && decide (SUB = FM))) := hide (by rw [hSUBe]; exact HV.out.1.symm)
  clear hV0 hh2 hr2 hnil2 hcm2 hbl2 hl2 hl1 hSUB hSUBe hRA hrd1 hrd2 hrd3 h8 hl8 hLB
  cases VV with
  | false =>
    have hpv : PV = false := by rw [HVV.out]; rfl
    clear hp hFM8
    refine wp_region_held_drew (S := (fun w' => w'.heap[Vb]? = some (.cells #[.int .i64 P0, .int .i64 P1, .string P2, .int .i64 P3, .int .i64 P4] 27) ∧ w'.heap[D]? = some (.cells #[.slice bo LB.length cap, .int .i64 (at2 : Int)] 59) ∧ Rd w' A SUB)) (by kernel_rfl) (by exact hS) (fun hHeld => ?_)
    try dsimp only at hHeld
    generalize W2.drew = W3 at hHeld HD HDoc HQ ⊢
    refine take_op (i := 0) (d := 19) (OP := Op.load 27 (Operand.tmp 5)) (T := 27) (v := .agg #[.int .i64 P0, .int .i64 P1, .string P2, .int .i64 P3, .int .i64 P4]) rfl rfl rfl rfl (by kernel_rfl) (by kernel_rfl) (by kernel_rfl) (fun _ _ _ h => h) (by rfl) (fun w' hSw => exec_ld27 rfl hSw.1) hHeld ?_
    try simp only [Act.put, List.setIfInBounds_toArray, List.set_cons_zero, List.set_cons_succ]
    refine call_op (i := 1) (d := 20) (OP := Op.call { callee := Callee.value (Operand.func 18), args := #[Operand.tmp 19], argTypes := #[27] }) (T := 4) (f := 18) (args := #[.agg #[.int .i64 P0, .int .i64 P1, .string P2, .int .i64 P3, .int .i64 P4]]) rfl rfl rfl rfl (by kernel_rfl) (by rfl) (by go_simp) ?_
    refine (hv _).mono ?_
    rintro e q1 ⟨rfl, bb⟩
    have hSq1 : q1.heap[Vb]? = some (.cells #[.int .i64 P0, .int .i64 P1, .string P2, .int .i64 P3, .int .i64 P4] 27) ∧ q1.heap[D]? = some (.cells #[.slice bo LB.length cap, .int .i64 (at2 : Int)] 59) ∧ Rd q1 A SUB := ⟨keptB' bb hHeld.1, keptB' bb hHeld.2.1, hHeld.2.2.below bb⟩
    replace HD := hide (HD.out.trans' ((Only.ofBelow bb).mono (fun _ _ c => c.elim)))
    replace HDoc := hide (HDoc.out.kept (row := none) (grown_of_below bb) (by simp))
    replace HQ := hide (keptB' bb HQ.out)
    clear bb
    refine ⟨_, rfl, hSq1, ?_⟩
    replace hHeld := hSq1
    try simp only [Act.put, List.setIfInBounds_toArray, List.set_cons_zero, List.set_cons_succ]
    refine take_op (i := 2) (d := 21) (OP := Op.unOp UnOp.not 4 (Operand.tmp 20)) (T := 4) (v := ?vy65x) rfl rfl rfl rfl (by kernel_rfl) (by kernel_rfl) (by kernel_rfl) (fun _ _ _ h => h) (by rfl) ?hy65x hHeld ?ry65x
    case hy65x => (intro w' hSw; (try dsimp only at hSw); go_simp <;> with_reducible rfl)
    try simp only [Act.put, List.setIfInBounds_toArray, List.set_cons_zero, List.set_cons_succ]
    refine take_op (i := 3) (d := 22) (OP := Op.move (Operand.tmp 21)) (T := 4) (v := ?vy66x) rfl rfl rfl rfl (by kernel_rfl) (by kernel_rfl) (by kernel_rfl) (fun _ _ _ h => h) (by rfl) ?hy66x hHeld ?ry66x
    case hy66x => (intro w' hSw; (try dsimp only at hSw); go_simp <;> with_reducible rfl)
    try simp only [Act.put, List.setIfInBounds_toArray, List.set_cons_zero, List.set_cons_succ]
    refine pass_op (i := 4) (d := 23) rfl rfl (by kernel_rfl) (by kernel_rfl) (by kernel_rfl) (fun _ _ _ h => h) (by rfl) hHeld ?_
    try simp only [Act.put, List.setIfInBounds_toArray, List.set_cons_zero, List.set_cons_succ]
    refine pass_op (i := 5) (d := 24) rfl rfl (by kernel_rfl) (by kernel_rfl) (by kernel_rfl) (fun _ _ _ h => h) (by rfl) hHeld ?_
    try simp only [Act.put, List.setIfInBounds_toArray, List.set_cons_zero, List.set_cons_succ]
    refine pass_op (i := 6) (d := 25) rfl rfl (by kernel_rfl) (by kernel_rfl) (by kernel_rfl) (fun _ _ _ h => h) (by rfl) hHeld ?_
    try simp only [Act.put, List.setIfInBounds_toArray, List.set_cons_zero, List.set_cons_succ]
    refine pass_op (i := 7) (d := 26) rfl rfl (by kernel_rfl) (by kernel_rfl) (by kernel_rfl) (fun _ _ _ h => h) (by rfl) hHeld ?_
    try simp only [Act.put, List.setIfInBounds_toArray, List.set_cons_zero, List.set_cons_succ]
    refine pass_op (i := 8) (d := 27) rfl rfl (by kernel_rfl) (by kernel_rfl) (by kernel_rfl) (fun _ _ _ h => h) (by rfl) hHeld ?_
    try simp only [Act.put, List.setIfInBounds_toArray, List.set_cons_zero, List.set_cons_succ]
    refine pass_op (i := 9) (d := 28) rfl rfl (by kernel_rfl) (by kernel_rfl) (by kernel_rfl) (fun _ _ _ h => h) (by rfl) hHeld ?_
    try simp only [Act.put, List.setIfInBounds_toArray, List.set_cons_zero, List.set_cons_succ]
    refine pass_op (i := 10) (d := 29) rfl rfl (by kernel_rfl) (by kernel_rfl) (by kernel_rfl) (fun _ _ _ h => h) (by rfl) hHeld ?_
    try simp only [Act.put, List.setIfInBounds_toArray, List.set_cons_zero, List.set_cons_succ]
    refine pass_op (i := 11) (d := 30) rfl rfl (by kernel_rfl) (by kernel_rfl) (by kernel_rfl) (fun _ _ _ h => h) (by rfl) hHeld ?_
    try simp only [Act.put, List.setIfInBounds_toArray, List.set_cons_zero, List.set_cons_succ]
    refine pass_op (i := 12) (d := 31) rfl rfl (by kernel_rfl) (by kernel_rfl) (by kernel_rfl) (fun _ _ _ h => h) (by rfl) hHeld ?_
    try simp only [Act.put, List.setIfInBounds_toArray, List.set_cons_zero, List.set_cons_succ]
    refine pass_op (i := 13) (d := 32) rfl rfl (by kernel_rfl) (by kernel_rfl) (by kernel_rfl) (fun _ _ _ h => h) (by rfl) hHeld ?_
    try simp only [Act.put, List.setIfInBounds_toArray, List.set_cons_zero, List.set_cons_succ]
    refine pass_op (i := 14) (d := 33) rfl rfl (by kernel_rfl) (by kernel_rfl) (by kernel_rfl) (fun _ _ _ h => h) (by rfl) hHeld ?_
    try simp only [Act.put, List.setIfInBounds_toArray, List.set_cons_zero, List.set_cons_succ]
    refine pass_op (i := 15) (d := 34) rfl rfl (by kernel_rfl) (by kernel_rfl) (by kernel_rfl) (fun _ _ _ h => h) (by rfl) hHeld ?_
    try simp only [Act.put, List.setIfInBounds_toArray, List.set_cons_zero, List.set_cons_succ]
    refine pass_op (i := 16) (d := 35) rfl rfl (by kernel_rfl) (by kernel_rfl) (by kernel_rfl) (fun _ _ _ h => h) (by rfl) hHeld ?_
    try simp only [Act.put, List.setIfInBounds_toArray, List.set_cons_zero, List.set_cons_succ]
    refine pass_op (i := 17) (d := 36) rfl rfl (by kernel_rfl) (by kernel_rfl) (by kernel_rfl) (fun _ _ _ h => h) (by rfl) hHeld ?_
    try simp only [Act.put, List.setIfInBounds_toArray, List.set_cons_zero, List.set_cons_succ]
    refine pass_op (i := 18) (d := 37) rfl rfl (by kernel_rfl) (by kernel_rfl) (by kernel_rfl) (fun _ _ _ h => h) (by rfl) hHeld ?_
    try simp only [Act.put, List.setIfInBounds_toArray, List.set_cons_zero, List.set_cons_succ]
    refine take_op (i := 19) (d := 38) (OP := Op.pick (Operand.tmp 22) (Operand.const (Value.bool true)) (Operand.tmp 37)) (T := 4) (v := ?vy82x) rfl rfl rfl rfl (by kernel_rfl) (by kernel_rfl) (by kernel_rfl) (fun _ _ _ h => h) (by rfl) ?hy82x hHeld ?ry82x
    case hy82x => (intro w' hSw; (try dsimp only at hSw); go_simp <;> with_reducible rfl)
    try simp only [Act.put, List.setIfInBounds_toArray, List.set_cons_zero, List.set_cons_succ]
    refine wpAnyH_done (by kernel_rfl) ?_ _
    clear hsl
    generalize hW9 : q1 = W9 at hHeld HD HDoc HQ ⊢
    have HEQ := hide (HV.out.2.1 hpv)
    obtain ⟨y0, y1, yf0, yf1⟩ := blk2 hHeld.2.1
    have HQ2 : Hid ((W9.setCell ⟨D, 1, none⟩ (.int .i64 (at1 : Int))).heap[w.heap.size]? = some (.cells #[.int .i64 0, .int .i64 0, .string ⟨#[]⟩, .int .i64 0, .int .i64 0] 27)) := hide (by rw [Below.heap_setCell _ _ _ _ (by show w.heap.size ≠ D; omega)]; exact HQ.out)
    obtain ⟨z0, z1, z2, z3, z4, zf0, zf1, zf2, zf3, zf4⟩ := blk5 HQ2.out
    have HDo2 := hide (Doc.back0 HDoc.out HH.out.2.1 HH.out.1)
    have HO2 : Hid (Only (fun j => j = D) w (W9.setCell ⟨D, 1, none⟩ (.int .i64 (at1 : Int)))) := hide (HD.out.setCell ⟨D, 1, none⟩ _ (fun _ => rfl))
    clear hHeld HV HVV
    go_wp2
    refine ret_row_tmp w.heap.size [.int .i64 0, .int .i64 0, .string ⟨#[]⟩, .int .i64 0, .int .i64 0] rfl rfl rfl Tryz.underlying27 rfl (by kernel_rfl) (t := 27) (fr := (0, 0)) (set5 HQ2.out) rfl ?_
    exact ⟨by rw [(HEQ.out.1), (HEQ.out.2.1), (HEQ.out.2.2.1), (HEQ.out.2.2.2.1), (HEQ.out.2.2.2.2.1), (HEQ.out.2.2.2.2.2.2)] <;> rfl, by rw [HEQ.out.2.2.2.2.2.1]; exact (((((HDo2.out.only (by omega) _).only (by omega) _).only (by omega) _).only (by omega) _).only (by omega) _), (((((HO2.out.fresh (Nat.le_refl _) _).fresh (Nat.le_refl _) _).fresh (Nat.le_refl _) _).fresh (Nat.le_refl _) _).fresh (Nat.le_refl _) _)⟩
  | true =>
    have hpp := hp rfl
    have hf8 := hFM8 rfl
    clear hp hFM8
    by_cases hsf : SUB = FM
    · have hpv : PV = true := by rw [HVV.out, hsf]; simp
      have HEQ := hide (HV.out.2.2 hpv)
      have hnq : ((strOfNums SUB).toList == (strOfNums FM).toList) = true := by rw [hsf]; simp
      clear HV HVV hpv hf8 hsf hSub8
      refine wp_region_held_drew (S := (fun w' => w'.heap[Vb]? = some (.cells #[.int .i64 P0, .int .i64 P1, .string P2, .int .i64 P3, .int .i64 P4] 27) ∧ w'.heap[D]? = some (.cells #[.slice bo LB.length cap, .int .i64 (at2 : Int)] 59) ∧ Rd w' A SUB)) (by kernel_rfl) (by exact hS) (fun hHeld => ?_)
      try dsimp only at hHeld
      generalize W2.drew = W3 at hHeld HD HDoc HQ ⊢
      refine take_op (i := 0) (d := 19) (OP := Op.load 27 (Operand.tmp 5)) (T := 27) (v := .agg #[.int .i64 P0, .int .i64 P1, .string P2, .int .i64 P3, .int .i64 P4]) rfl rfl rfl rfl (by kernel_rfl) (by kernel_rfl) (by kernel_rfl) (fun _ _ _ h => h) (by rfl) (fun w' hSw => exec_ld27 rfl hSw.1) hHeld ?_
      try simp only [Act.put, List.setIfInBounds_toArray, List.set_cons_zero, List.set_cons_succ]
      refine call_op (i := 1) (d := 20) (OP := Op.call { callee := Callee.value (Operand.func 18), args := #[Operand.tmp 19], argTypes := #[27] }) (T := 4) (f := 18) (args := #[.agg #[.int .i64 P0, .int .i64 P1, .string P2, .int .i64 P3, .int .i64 P4]]) rfl rfl rfl rfl (by kernel_rfl) (by rfl) (by go_simp) ?_
      refine (hv _).mono ?_
      rintro e q1 ⟨rfl, bb⟩
      have hSq1 : q1.heap[Vb]? = some (.cells #[.int .i64 P0, .int .i64 P1, .string P2, .int .i64 P3, .int .i64 P4] 27) ∧ q1.heap[D]? = some (.cells #[.slice bo LB.length cap, .int .i64 (at2 : Int)] 59) ∧ Rd q1 A SUB := ⟨keptB' bb hHeld.1, keptB' bb hHeld.2.1, hHeld.2.2.below bb⟩
      replace HD := hide (HD.out.trans' ((Only.ofBelow bb).mono (fun _ _ c => c.elim)))
      replace HDoc := hide (HDoc.out.kept (row := none) (grown_of_below bb) (by simp))
      replace HQ := hide (keptB' bb HQ.out)
      clear bb
      refine ⟨_, rfl, hSq1, ?_⟩
      replace hHeld := hSq1
      try simp only [Act.put, List.setIfInBounds_toArray, List.set_cons_zero, List.set_cons_succ]
      refine take_op (i := 2) (d := 21) (OP := Op.unOp UnOp.not 4 (Operand.tmp 20)) (T := 4) (v := ?vy83x) rfl rfl rfl rfl (by kernel_rfl) (by kernel_rfl) (by kernel_rfl) (fun _ _ _ h => h) (by rfl) ?hy83x hHeld ?ry83x
      case hy83x => (intro w' hSw; (try dsimp only at hSw); go_simp <;> with_reducible rfl)
      try simp only [Act.put, List.setIfInBounds_toArray, List.set_cons_zero, List.set_cons_succ]
      refine take_op (i := 3) (d := 22) (OP := Op.move (Operand.tmp 21)) (T := 4) (v := ?vy84x) rfl rfl rfl rfl (by kernel_rfl) (by kernel_rfl) (by kernel_rfl) (fun _ _ _ h => h) (by rfl) ?hy84x hHeld ?ry84x
      case hy84x => (intro w' hSw; (try dsimp only at hSw); go_simp <;> with_reducible rfl)
      try simp only [Act.put, List.setIfInBounds_toArray, List.set_cons_zero, List.set_cons_succ]
      refine take_op (i := 4) (d := 23) (OP := Op.move (Operand.tmp 0)) (T := 57) (v := ?vy85x) rfl rfl rfl rfl (by kernel_rfl) (by kernel_rfl) (by kernel_rfl) (fun _ _ _ h => h) (by rfl) ?hy85x hHeld ?ry85x
      case hy85x => (intro w' hSw; (try dsimp only at hSw); go_simp <;> with_reducible rfl)
      try simp only [Act.put, List.setIfInBounds_toArray, List.set_cons_zero, List.set_cons_succ]
      refine take_op (i := 5) (d := 24) (OP := Op.nilCheck (Operand.tmp 23)) (T := 0) (v := .pointer (some ⟨D, 0, none⟩)) rfl rfl rfl rfl (by kernel_rfl) (by kernel_rfl) (by kernel_rfl) (fun _ _ _ h => h) (by rfl) (fun w' _ => exec_nil rfl) hHeld ?_
      try simp only [Act.put, List.setIfInBounds_toArray, List.set_cons_zero, List.set_cons_succ]
      refine take_op (i := 6) (d := 25) (OP := Op.fieldAddr 59 (Operand.tmp 24) 0) (T := 0) (v := .pointer (some ⟨D, 0, none⟩)) rfl rfl rfl rfl (by kernel_rfl) (by kernel_rfl) (by kernel_rfl) (fun _ _ _ h => h) (by rfl) (fun w' _ => exec_fa59_0 rfl) hHeld ?_
      try simp only [Act.put, List.setIfInBounds_toArray, List.set_cons_zero, List.set_cons_succ]
      refine take_op (i := 7) (d := 26) (OP := Op.load 29 (Operand.tmp 25)) (T := 29) (v := .slice bo LB.length cap) rfl rfl rfl rfl (by kernel_rfl) (by kernel_rfl) (by kernel_rfl) (fun _ _ _ h => h) (by rfl) (fun w' hSw => exec_ld29 rfl (blk2 hSw.2.1).1) hHeld ?_
      try simp only [Act.put, List.setIfInBounds_toArray, List.set_cons_zero, List.set_cons_succ]
      refine take_op (i := 8) (d := 27) (OP := Op.move (Operand.tmp 4)) (T := 3) (v := ?vy86x) rfl rfl rfl rfl (by kernel_rfl) (by kernel_rfl) (by kernel_rfl) (fun _ _ _ h => h) (by rfl) ?hy86x hHeld ?ry86x
      case hy86x => (intro w' hSw; (try dsimp only at hSw); go_simp <;> with_reducible rfl)
      try simp only [Act.put, List.setIfInBounds_toArray, List.set_cons_zero, List.set_cons_succ]
      refine take_op (i := 9) (d := 28) (OP := Op.move (Operand.tmp 0)) (T := 57) (v := ?vy87x) rfl rfl rfl rfl (by kernel_rfl) (by kernel_rfl) (by kernel_rfl) (fun _ _ _ h => h) (by rfl) ?hy87x hHeld ?ry87x
      case hy87x => (intro w' hSw; (try dsimp only at hSw); go_simp <;> with_reducible rfl)
      try simp only [Act.put, List.setIfInBounds_toArray, List.set_cons_zero, List.set_cons_succ]
      refine take_op (i := 10) (d := 29) (OP := Op.nilCheck (Operand.tmp 28)) (T := 0) (v := .pointer (some ⟨D, 0, none⟩)) rfl rfl rfl rfl (by kernel_rfl) (by kernel_rfl) (by kernel_rfl) (fun _ _ _ h => h) (by rfl) (fun w' _ => exec_nil rfl) hHeld ?_
      try simp only [Act.put, List.setIfInBounds_toArray, List.set_cons_zero, List.set_cons_succ]
      refine take_op (i := 11) (d := 30) (OP := Op.fieldAddr 59 (Operand.tmp 29) 1) (T := 0) (v := .pointer (some ⟨D, 1, none⟩)) rfl rfl rfl rfl (by kernel_rfl) (by kernel_rfl) (by kernel_rfl) (fun _ _ _ h => h) (by rfl) (fun w' _ => exec_fa59_1 rfl) hHeld ?_
      try simp only [Act.put, List.setIfInBounds_toArray, List.set_cons_zero, List.set_cons_succ]
      refine take_op (i := 12) (d := 31) (OP := Op.load 3 (Operand.tmp 30)) (T := 3) (v := .int .i64 (at2 : Int)) rfl rfl rfl rfl (by kernel_rfl) (by kernel_rfl) (by kernel_rfl) (fun _ _ _ h => h) (by rfl) (fun w' hSw => exec_ld3 rfl (blk2 hSw.2.1).2.1) hHeld ?_
      try simp only [Act.put, List.setIfInBounds_toArray, List.set_cons_zero, List.set_cons_succ]
      refine take_op (i := 13) (d := 32) (OP := Op.slice 29 (Operand.tmp 26) (some (Operand.tmp 27)) (some (Operand.tmp 31)) none) (T := 29) (v := .slice A (at2 - at1) (cap - at1)) rfl rfl rfl rfl (by kernel_rfl) (by kernel_rfl) (by kernel_rfl) (fun _ _ _ h => h) (by rfl) (fun w' _ => exec_slc rfl rfl rfl (hsl w')) hHeld ?_
      try simp only [Act.put, List.setIfInBounds_toArray, List.set_cons_zero, List.set_cons_succ]
      refine take_op (i := 14) (d := 33) (OP := Op.convert 29 9 (Operand.tmp 32)) (T := 9) (v := .string (strOfNums SUB)) rfl rfl rfl rfl (by kernel_rfl) (by kernel_rfl) (by kernel_rfl) (fun _ _ _ h => h) (by rfl) (fun w' hSw => exec_conv2 (v := .slice A (at2 - at1) (cap - at1)) rfl (conv_rd (n := at2 - at1) (cap := cap - at1) hSw.2.2 hsub)) hHeld ?_
      try simp only [Act.put, List.setIfInBounds_toArray, List.set_cons_zero, List.set_cons_succ]
      refine take_op (i := 15) (d := 34) (OP := Op.load 27 (Operand.tmp 5)) (T := 27) (v := .agg #[.int .i64 P0, .int .i64 P1, .string P2, .int .i64 P3, .int .i64 P4]) rfl rfl rfl rfl (by kernel_rfl) (by kernel_rfl) (by kernel_rfl) (fun _ _ _ h => h) (by rfl) (fun w' hSw => exec_ld27 rfl hSw.1) hHeld ?_
      try simp only [Act.put, List.setIfInBounds_toArray, List.set_cons_zero, List.set_cons_succ]
      refine call_op (i := 16) (d := 35) (OP := Op.call { callee := Callee.value (Operand.func 23), args := #[Operand.tmp 34], argTypes := #[27] }) (T := 29) (f := 23) (args := #[.agg #[.int .i64 P0, .int .i64 P1, .string P2, .int .i64 P3, .int .i64 P4]]) rfl rfl rfl rfl (by kernel_rfl) (by rfl) (by go_simp) ?_
      refine (hpp _).mono ?_
      rintro e q2 ⟨ap, cp, rfl, RP0, _, bb⟩
      have RP := RP0.rd
      have hSq2 : q2.heap[Vb]? = some (.cells #[.int .i64 P0, .int .i64 P1, .string P2, .int .i64 P3, .int .i64 P4] 27) ∧ q2.heap[D]? = some (.cells #[.slice bo LB.length cap, .int .i64 (at2 : Int)] 59) ∧ Rd q2 A SUB := ⟨keptB' bb hHeld.1, keptB' bb hHeld.2.1, hHeld.2.2.below bb⟩
      replace HD := hide (HD.out.trans' ((Only.ofBelow bb).mono (fun _ _ c => c.elim)))
      replace HDoc := hide (HDoc.out.kept (row := none) (grown_of_below bb) (by simp))
      replace HQ := hide (keptB' bb HQ.out)
      clear bb
      refine ⟨_, rfl, hSq2, ?_⟩
      replace hHeld := hSq2
      try simp only [Act.put, List.setIfInBounds_toArray, List.set_cons_zero, List.set_cons_succ]
      refine alone_op (i := 17) (d := 36) (OP := Op.convert 29 9 (Operand.tmp 35)) (T := 9) (v := .string (strOfNums FM)) rfl rfl rfl rfl (by kernel_rfl) (by rfl) (exec_conv2 (v := .slice ap FM.length cp) rfl (conv_rd (n := FM.length) (cap := cp) RP rfl)) hHeld ?_
      try simp only [Act.put, List.setIfInBounds_toArray, List.set_cons_zero, List.set_cons_succ]
      refine take_op (i := 18) (d := 37) (OP := Op.binOp BinOp.neq 9 (Operand.tmp 33) (Operand.tmp 36) 9) (T := 4) (v := ?vy88x) rfl rfl rfl rfl (by kernel_rfl) (by kernel_rfl) (by kernel_rfl) (fun _ _ _ h => h) (by rfl) ?hy88x hHeld ?ry88x
      case hy88x => (intro w' hSw; (try dsimp only at hSw); go_simp <;> with_reducible rfl)
      try simp only [Act.put, List.setIfInBounds_toArray, List.set_cons_zero, List.set_cons_succ]
      refine take_op (i := 19) (d := 38) (OP := Op.pick (Operand.tmp 22) (Operand.const (Value.bool true)) (Operand.tmp 37)) (T := 4) (v := ?vy89x) rfl rfl rfl rfl (by kernel_rfl) (by kernel_rfl) (by kernel_rfl) (fun _ _ _ h => h) (by rfl) ?hy89x hHeld ?ry89x
      case hy89x => (intro w' hSw; (try dsimp only at hSw); go_simp <;> with_reducible rfl)
      try simp only [Act.put, List.setIfInBounds_toArray, List.set_cons_zero, List.set_cons_succ]
      refine wpAnyH_done (by kernel_rfl) ?_ _
      clear hsl
      obtain ⟨z0, z1, z2, z3, z4, zf0, zf1, zf2, zf3, zf4⟩ := blk5 HQ.out
      obtain ⟨y0, y1, y2, y3, y4, _, _, _, _, _⟩ := blk5 hHeld.1
      clear hHeld
      go_wp2
      refine ret_row_tmp w.heap.size [.int .i64 P0, .int .i64 P1, .string P2, .int .i64 P3, .int .i64 P4] rfl rfl rfl Tryz.underlying27 rfl (by kernel_rfl) (t := 27) (fr := (0, 0)) (set5 HQ.out) rfl ?_
      exact ⟨by rw [(HEQ.out.1), (HEQ.out.2.1), (HEQ.out.2.2.1), (HEQ.out.2.2.2.1), (HEQ.out.2.2.2.2.1), (HEQ.out.2.2.2.2.2.2)] <;> rfl, by rw [HEQ.out.2.2.2.2.2.1]; exact (((((HDoc.out.only (by omega) _).only (by omega) _).only (by omega) _).only (by omega) _).only (by omega) _), (((((HD.out.fresh (Nat.le_refl _) _).fresh (Nat.le_refl _) _).fresh (Nat.le_refl _) _).fresh (Nat.le_refl _) _).fresh (Nat.le_refl _) _)⟩
    · have hpv : PV = false := by rw [HVV.out]; simp [hsf]
      have hnq : ((strOfNums SUB).toList == (strOfNums FM).toList) = false := by rw [beq_eq_false_iff_ne, ByteArray.toList_eq, ByteArray.toList_eq]; exact fun h => hsf (strI_inj hSub8 hf8 h)
      clear hf8 hsf hSub8
      refine wp_region_held_drew (S := (fun w' => w'.heap[Vb]? = some (.cells #[.int .i64 P0, .int .i64 P1, .string P2, .int .i64 P3, .int .i64 P4] 27) ∧ w'.heap[D]? = some (.cells #[.slice bo LB.length cap, .int .i64 (at2 : Int)] 59) ∧ Rd w' A SUB)) (by kernel_rfl) (by exact hS) (fun hHeld => ?_)
      try dsimp only at hHeld
      generalize W2.drew = W3 at hHeld HD HDoc HQ ⊢
      refine take_op (i := 0) (d := 19) (OP := Op.load 27 (Operand.tmp 5)) (T := 27) (v := .agg #[.int .i64 P0, .int .i64 P1, .string P2, .int .i64 P3, .int .i64 P4]) rfl rfl rfl rfl (by kernel_rfl) (by kernel_rfl) (by kernel_rfl) (fun _ _ _ h => h) (by rfl) (fun w' hSw => exec_ld27 rfl hSw.1) hHeld ?_
      try simp only [Act.put, List.setIfInBounds_toArray, List.set_cons_zero, List.set_cons_succ]
      refine call_op (i := 1) (d := 20) (OP := Op.call { callee := Callee.value (Operand.func 18), args := #[Operand.tmp 19], argTypes := #[27] }) (T := 4) (f := 18) (args := #[.agg #[.int .i64 P0, .int .i64 P1, .string P2, .int .i64 P3, .int .i64 P4]]) rfl rfl rfl rfl (by kernel_rfl) (by rfl) (by go_simp) ?_
      refine (hv _).mono ?_
      rintro e q1 ⟨rfl, bb⟩
      have hSq1 : q1.heap[Vb]? = some (.cells #[.int .i64 P0, .int .i64 P1, .string P2, .int .i64 P3, .int .i64 P4] 27) ∧ q1.heap[D]? = some (.cells #[.slice bo LB.length cap, .int .i64 (at2 : Int)] 59) ∧ Rd q1 A SUB := ⟨keptB' bb hHeld.1, keptB' bb hHeld.2.1, hHeld.2.2.below bb⟩
      replace HD := hide (HD.out.trans' ((Only.ofBelow bb).mono (fun _ _ c => c.elim)))
      replace HDoc := hide (HDoc.out.kept (row := none) (grown_of_below bb) (by simp))
      replace HQ := hide (keptB' bb HQ.out)
      clear bb
      refine ⟨_, rfl, hSq1, ?_⟩
      replace hHeld := hSq1
      try simp only [Act.put, List.setIfInBounds_toArray, List.set_cons_zero, List.set_cons_succ]
      refine take_op (i := 2) (d := 21) (OP := Op.unOp UnOp.not 4 (Operand.tmp 20)) (T := 4) (v := ?vy90x) rfl rfl rfl rfl (by kernel_rfl) (by kernel_rfl) (by kernel_rfl) (fun _ _ _ h => h) (by rfl) ?hy90x hHeld ?ry90x
      case hy90x => (intro w' hSw; (try dsimp only at hSw); go_simp <;> with_reducible rfl)
      try simp only [Act.put, List.setIfInBounds_toArray, List.set_cons_zero, List.set_cons_succ]
      refine take_op (i := 3) (d := 22) (OP := Op.move (Operand.tmp 21)) (T := 4) (v := ?vy91x) rfl rfl rfl rfl (by kernel_rfl) (by kernel_rfl) (by kernel_rfl) (fun _ _ _ h => h) (by rfl) ?hy91x hHeld ?ry91x
      case hy91x => (intro w' hSw; (try dsimp only at hSw); go_simp <;> with_reducible rfl)
      try simp only [Act.put, List.setIfInBounds_toArray, List.set_cons_zero, List.set_cons_succ]
      refine take_op (i := 4) (d := 23) (OP := Op.move (Operand.tmp 0)) (T := 57) (v := ?vy92x) rfl rfl rfl rfl (by kernel_rfl) (by kernel_rfl) (by kernel_rfl) (fun _ _ _ h => h) (by rfl) ?hy92x hHeld ?ry92x
      case hy92x => (intro w' hSw; (try dsimp only at hSw); go_simp <;> with_reducible rfl)
      try simp only [Act.put, List.setIfInBounds_toArray, List.set_cons_zero, List.set_cons_succ]
      refine take_op (i := 5) (d := 24) (OP := Op.nilCheck (Operand.tmp 23)) (T := 0) (v := .pointer (some ⟨D, 0, none⟩)) rfl rfl rfl rfl (by kernel_rfl) (by kernel_rfl) (by kernel_rfl) (fun _ _ _ h => h) (by rfl) (fun w' _ => exec_nil rfl) hHeld ?_
      try simp only [Act.put, List.setIfInBounds_toArray, List.set_cons_zero, List.set_cons_succ]
      refine take_op (i := 6) (d := 25) (OP := Op.fieldAddr 59 (Operand.tmp 24) 0) (T := 0) (v := .pointer (some ⟨D, 0, none⟩)) rfl rfl rfl rfl (by kernel_rfl) (by kernel_rfl) (by kernel_rfl) (fun _ _ _ h => h) (by rfl) (fun w' _ => exec_fa59_0 rfl) hHeld ?_
      try simp only [Act.put, List.setIfInBounds_toArray, List.set_cons_zero, List.set_cons_succ]
      refine take_op (i := 7) (d := 26) (OP := Op.load 29 (Operand.tmp 25)) (T := 29) (v := .slice bo LB.length cap) rfl rfl rfl rfl (by kernel_rfl) (by kernel_rfl) (by kernel_rfl) (fun _ _ _ h => h) (by rfl) (fun w' hSw => exec_ld29 rfl (blk2 hSw.2.1).1) hHeld ?_
      try simp only [Act.put, List.setIfInBounds_toArray, List.set_cons_zero, List.set_cons_succ]
      refine take_op (i := 8) (d := 27) (OP := Op.move (Operand.tmp 4)) (T := 3) (v := ?vy93x) rfl rfl rfl rfl (by kernel_rfl) (by kernel_rfl) (by kernel_rfl) (fun _ _ _ h => h) (by rfl) ?hy93x hHeld ?ry93x
      case hy93x => (intro w' hSw; (try dsimp only at hSw); go_simp <;> with_reducible rfl)
      try simp only [Act.put, List.setIfInBounds_toArray, List.set_cons_zero, List.set_cons_succ]
      refine take_op (i := 9) (d := 28) (OP := Op.move (Operand.tmp 0)) (T := 57) (v := ?vy94x) rfl rfl rfl rfl (by kernel_rfl) (by kernel_rfl) (by kernel_rfl) (fun _ _ _ h => h) (by rfl) ?hy94x hHeld ?ry94x
      case hy94x => (intro w' hSw; (try dsimp only at hSw); go_simp <;> with_reducible rfl)
      try simp only [Act.put, List.setIfInBounds_toArray, List.set_cons_zero, List.set_cons_succ]
      refine take_op (i := 10) (d := 29) (OP := Op.nilCheck (Operand.tmp 28)) (T := 0) (v := .pointer (some ⟨D, 0, none⟩)) rfl rfl rfl rfl (by kernel_rfl) (by kernel_rfl) (by kernel_rfl) (fun _ _ _ h => h) (by rfl) (fun w' _ => exec_nil rfl) hHeld ?_
      try simp only [Act.put, List.setIfInBounds_toArray, List.set_cons_zero, List.set_cons_succ]
      refine take_op (i := 11) (d := 30) (OP := Op.fieldAddr 59 (Operand.tmp 29) 1) (T := 0) (v := .pointer (some ⟨D, 1, none⟩)) rfl rfl rfl rfl (by kernel_rfl) (by kernel_rfl) (by kernel_rfl) (fun _ _ _ h => h) (by rfl) (fun w' _ => exec_fa59_1 rfl) hHeld ?_
      try simp only [Act.put, List.setIfInBounds_toArray, List.set_cons_zero, List.set_cons_succ]
      refine take_op (i := 12) (d := 31) (OP := Op.load 3 (Operand.tmp 30)) (T := 3) (v := .int .i64 (at2 : Int)) rfl rfl rfl rfl (by kernel_rfl) (by kernel_rfl) (by kernel_rfl) (fun _ _ _ h => h) (by rfl) (fun w' hSw => exec_ld3 rfl (blk2 hSw.2.1).2.1) hHeld ?_
      try simp only [Act.put, List.setIfInBounds_toArray, List.set_cons_zero, List.set_cons_succ]
      refine take_op (i := 13) (d := 32) (OP := Op.slice 29 (Operand.tmp 26) (some (Operand.tmp 27)) (some (Operand.tmp 31)) none) (T := 29) (v := .slice A (at2 - at1) (cap - at1)) rfl rfl rfl rfl (by kernel_rfl) (by kernel_rfl) (by kernel_rfl) (fun _ _ _ h => h) (by rfl) (fun w' _ => exec_slc rfl rfl rfl (hsl w')) hHeld ?_
      try simp only [Act.put, List.setIfInBounds_toArray, List.set_cons_zero, List.set_cons_succ]
      refine take_op (i := 14) (d := 33) (OP := Op.convert 29 9 (Operand.tmp 32)) (T := 9) (v := .string (strOfNums SUB)) rfl rfl rfl rfl (by kernel_rfl) (by kernel_rfl) (by kernel_rfl) (fun _ _ _ h => h) (by rfl) (fun w' hSw => exec_conv2 (v := .slice A (at2 - at1) (cap - at1)) rfl (conv_rd (n := at2 - at1) (cap := cap - at1) hSw.2.2 hsub)) hHeld ?_
      try simp only [Act.put, List.setIfInBounds_toArray, List.set_cons_zero, List.set_cons_succ]
      refine take_op (i := 15) (d := 34) (OP := Op.load 27 (Operand.tmp 5)) (T := 27) (v := .agg #[.int .i64 P0, .int .i64 P1, .string P2, .int .i64 P3, .int .i64 P4]) rfl rfl rfl rfl (by kernel_rfl) (by kernel_rfl) (by kernel_rfl) (fun _ _ _ h => h) (by rfl) (fun w' hSw => exec_ld27 rfl hSw.1) hHeld ?_
      try simp only [Act.put, List.setIfInBounds_toArray, List.set_cons_zero, List.set_cons_succ]
      refine call_op (i := 16) (d := 35) (OP := Op.call { callee := Callee.value (Operand.func 23), args := #[Operand.tmp 34], argTypes := #[27] }) (T := 29) (f := 23) (args := #[.agg #[.int .i64 P0, .int .i64 P1, .string P2, .int .i64 P3, .int .i64 P4]]) rfl rfl rfl rfl (by kernel_rfl) (by rfl) (by go_simp) ?_
      refine (hpp _).mono ?_
      rintro e q2 ⟨ap, cp, rfl, RP0, _, bb⟩
      have RP := RP0.rd
      have hSq2 : q2.heap[Vb]? = some (.cells #[.int .i64 P0, .int .i64 P1, .string P2, .int .i64 P3, .int .i64 P4] 27) ∧ q2.heap[D]? = some (.cells #[.slice bo LB.length cap, .int .i64 (at2 : Int)] 59) ∧ Rd q2 A SUB := ⟨keptB' bb hHeld.1, keptB' bb hHeld.2.1, hHeld.2.2.below bb⟩
      replace HD := hide (HD.out.trans' ((Only.ofBelow bb).mono (fun _ _ c => c.elim)))
      replace HDoc := hide (HDoc.out.kept (row := none) (grown_of_below bb) (by simp))
      replace HQ := hide (keptB' bb HQ.out)
      clear bb
      refine ⟨_, rfl, hSq2, ?_⟩
      replace hHeld := hSq2
      try simp only [Act.put, List.setIfInBounds_toArray, List.set_cons_zero, List.set_cons_succ]
      refine alone_op (i := 17) (d := 36) (OP := Op.convert 29 9 (Operand.tmp 35)) (T := 9) (v := .string (strOfNums FM)) rfl rfl rfl rfl (by kernel_rfl) (by rfl) (exec_conv2 (v := .slice ap FM.length cp) rfl (conv_rd (n := FM.length) (cap := cp) RP rfl)) hHeld ?_
      try simp only [Act.put, List.setIfInBounds_toArray, List.set_cons_zero, List.set_cons_succ]
      refine take_op (i := 18) (d := 37) (OP := Op.binOp BinOp.neq 9 (Operand.tmp 33) (Operand.tmp 36) 9) (T := 4) (v := ?vy95x) rfl rfl rfl rfl (by kernel_rfl) (by kernel_rfl) (by kernel_rfl) (fun _ _ _ h => h) (by rfl) ?hy95x hHeld ?ry95x
      case hy95x => (intro w' hSw; (try dsimp only at hSw); go_simp <;> with_reducible rfl)
      try simp only [Act.put, List.setIfInBounds_toArray, List.set_cons_zero, List.set_cons_succ]
      refine take_op (i := 19) (d := 38) (OP := Op.pick (Operand.tmp 22) (Operand.const (Value.bool true)) (Operand.tmp 37)) (T := 4) (v := ?vy96x) rfl rfl rfl rfl (by kernel_rfl) (by kernel_rfl) (by kernel_rfl) (fun _ _ _ h => h) (by rfl) ?hy96x hHeld ?ry96x
      case hy96x => (intro w' hSw; (try dsimp only at hSw); go_simp <;> with_reducible rfl)
      try simp only [Act.put, List.setIfInBounds_toArray, List.set_cons_zero, List.set_cons_succ]
      refine wpAnyH_done (by kernel_rfl) ?_ _
      clear hsl
      generalize hW9 : q2 = W9 at hHeld HD HDoc HQ ⊢
      have HEQ := hide (HV.out.2.1 hpv)
      obtain ⟨y0, y1, yf0, yf1⟩ := blk2 hHeld.2.1
      have HQ2 : Hid ((W9.setCell ⟨D, 1, none⟩ (.int .i64 (at1 : Int))).heap[w.heap.size]? = some (.cells #[.int .i64 0, .int .i64 0, .string ⟨#[]⟩, .int .i64 0, .int .i64 0] 27)) := hide (by rw [Below.heap_setCell _ _ _ _ (by show w.heap.size ≠ D; omega)]; exact HQ.out)
      obtain ⟨z0, z1, z2, z3, z4, zf0, zf1, zf2, zf3, zf4⟩ := blk5 HQ2.out
      have HDo2 := hide (Doc.back0 HDoc.out HH.out.2.1 HH.out.1)
      have HO2 : Hid (Only (fun j => j = D) w (W9.setCell ⟨D, 1, none⟩ (.int .i64 (at1 : Int)))) := hide (HD.out.setCell ⟨D, 1, none⟩ _ (fun _ => rfl))
      clear hHeld HV HVV
      go_wp2
      refine ret_row_tmp w.heap.size [.int .i64 0, .int .i64 0, .string ⟨#[]⟩, .int .i64 0, .int .i64 0] rfl rfl rfl Tryz.underlying27 rfl (by kernel_rfl) (t := 27) (fr := (0, 0)) (set5 HQ2.out) rfl ?_
      exact ⟨by rw [(HEQ.out.1), (HEQ.out.2.1), (HEQ.out.2.2.1), (HEQ.out.2.2.2.1), (HEQ.out.2.2.2.2.1), (HEQ.out.2.2.2.2.2.2)] <;> rfl, by rw [HEQ.out.2.2.2.2.2.1]; exact (((((HDo2.out.only (by omega) _).only (by omega) _).only (by omega) _).only (by omega) _).only (by omega) _), (((((HO2.out.fresh (Nat.le_refl _) _).fresh (Nat.le_refl _) _).fresh (Nat.le_refl _) _).fresh (Nat.le_refl _) _).fresh (Nat.le_refl _) _)⟩
end Go.Proofs.YtkjabnpniingnaaGreatDoor
