/-
  DOCTB: the document's taking out of bytes.
-/
import Derived.Test.YtkjabnpniingnaaGreatDoorTheoryT
import Derived.Test.YtkjabnpniingnaaGreatDoorRefPut
import Derived.Test.YtkjabnpniingnaaGreatDoorKnown
namespace Go.Proofs.YtkjabnpniingnaaGreatDoor
open Go.RowKit Go.Shelf
set_option linter.unusedSimpArgs false

variable {T : Nat}
theorem keptB' {w w' : World} {p : Nat} {o : Obj} (hb : Below w.heap.size w w') (h : w.heap[p]? = some o) : w'.heap[p]? = some o := (hb.block _ (Array.getElem?_eq_some_iff.1 h).1).trans h
theorem Doc.drew {w : World} {D : Nat} {LB l : List Int} (h : Doc T w D LB l) : Doc T w.drew D LB l := h.kept (row := none) ⟨rfl, rfl, rfl, Nat.le_refl _, fun _ _ _ => rfl⟩ (by simp)
theorem Doc.back0 {w : World} {D at1 : Nat} {LB l l' : List Int} (h : Doc T w D LB l') (ha : at1 ≤ LB.length) (hl : l = LB.drop at1) : Doc T (w.setCell ⟨D, 1, none⟩ (.int .i64 (at1 : Int))) D LB l := by
  obtain ⟨bo, cap, at2, h1, h2, h3, h4, h5, h6, h7, h8, _, _⟩ := h
  exact (Doc.set h1 h2 h3 h4 h5 h6 h7 h8 ha hl).1
theorem exec_ld23 {ev : Operand → Value} {x : Operand} {T : TypeId} {w : World} {b : Nat} {u v : Value} (hx : ev x = .pointer (some ⟨b, 0, none⟩)) (h : w.heap[b]? = some (.cells #[u, v] 23)) :
    (execOp ev { dst := none, op := .load 23 x, type := T, pos := "", after := #[], guard := none }).run Tryz.prog w = .ok (.value (.agg #[u, v])) w := by
  obtain ⟨c0, c1, _, _⟩ := blk2 h
  unfold execOp
  simp only [hx]
  go_simp
theorem exec_ld25 {ev : Operand → Value} {x : Operand} {T : TypeId} {w : World} {b : Nat} {u v z : Value} (hx : ev x = .pointer (some ⟨b, 0, none⟩)) (h : w.heap[b]? = some (.cells #[u, v, z] 25)) :
    (execOp ev { dst := none, op := .load 25 x, type := T, pos := "", after := #[], guard := none }).run Tryz.prog w = .ok (.value (.agg #[u, v, z])) w := by
  obtain ⟨c0, c1, c2, _, _, _⟩ := blk3 h
  unfold execOp
  simp only [hx]
  go_simp
theorem exec_ld27 {ev : Operand → Value} {x : Operand} {T : TypeId} {w : World} {b : Nat} {u v z y t : Value} (hx : ev x = .pointer (some ⟨b, 0, none⟩)) (h : w.heap[b]? = some (.cells #[u, v, z, y, t] 27)) :
    (execOp ev { dst := none, op := .load 27 x, type := T, pos := "", after := #[], guard := none }).run Tryz.prog w = .ok (.value (.agg #[u, v, z, y, t])) w := by
  obtain ⟨c0, c1, c2, c3, c4, _, _, _, _, _⟩ := blk5 h
  unfold execOp
  simp only [hx]
  go_simp
theorem exec_ld29 {ev : Operand → Value} {x : Operand} {T : TypeId} {w : World} {b o : Nat} {v : Value} (hx : ev x = .pointer (some ⟨b, o, none⟩)) (h : w.cell? ⟨b, o, none⟩ = some v) :
    (execOp ev { dst := none, op := .load 29 x, type := T, pos := "", after := #[], guard := none }).run Tryz.prog w = .ok (.value v) w := by
  unfold execOp
  simp only [hx]
  go_simp
theorem exec_ld3 {ev : Operand → Value} {x : Operand} {T : TypeId} {w : World} {b o : Nat} {v : Value} (hx : ev x = .pointer (some ⟨b, o, none⟩)) (h : w.cell? ⟨b, o, none⟩ = some v) :
    (execOp ev { dst := none, op := .load 3 x, type := T, pos := "", after := #[], guard := none }).run Tryz.prog w = .ok (.value v) w := by
  unfold execOp
  simp only [hx]
  go_simp
theorem exec_fa59_0 {ev : Operand → Value} {x : Operand} {T : TypeId} {w : World} {b o : Nat} (hx : ev x = .pointer (some ⟨b, o, none⟩)) :
    (execOp ev { dst := none, op := .fieldAddr 59 x 0, type := T, pos := "", after := #[], guard := none }).run Tryz.prog w = .ok (.value (.pointer (some ⟨b, o + 0, none⟩))) w := by
  unfold execOp
  simp only [hx]
  go_simp
theorem exec_fa59_1 {ev : Operand → Value} {x : Operand} {T : TypeId} {w : World} {b o : Nat} (hx : ev x = .pointer (some ⟨b, o, none⟩)) :
    (execOp ev { dst := none, op := .fieldAddr 59 x 1, type := T, pos := "", after := #[], guard := none }).run Tryz.prog w = .ok (.value (.pointer (some ⟨b, o + 1, none⟩))) w := by
  unfold execOp
  simp only [hx]
  go_simp
theorem exec_nil {ev : Operand → Value} {x : Operand} {T : TypeId} {w : World} {a : Addr} (hx : ev x = .pointer (some a)) :
    (execOp ev { dst := none, op := .nilCheck x, type := T, pos := "", after := #[], guard := none }).run Tryz.prog w = .ok (.value (.pointer (some a))) w := by
  unfold execOp
  simp only [hx]
  go_simp
theorem exec_slc {ev : Operand → Value} {x y z : Operand} {T : TypeId} {w : World} {u a b v : Value} (hx : ev x = u) (hy : ev y = a) (hz : ev z = b) (h : (Instr.slice 29 u (some a) (some b) none).run Tryz.prog w = .ok v w) :
    (execOp ev { dst := none, op := .slice 29 x (some y) (some z) none, type := T, pos := "", after := #[], guard := none }).run Tryz.prog w = .ok (.value v) w := by
  have h2 : (Instr.sliceAt 29 u (some a) (some b) none).run Tryz.prog w = .ok v w := by simp [Instr.sliceAt, run_underlying Tryz.underlying29, h]
  simp [execOp, hx, hy, hz, h2, Result.andThen]
theorem smP_len (l : List Int) : (smP l).2.length ≤ l.length := by
  have := rnum_len l
  unfold smP
  split <;> exact this
theorem dbP_len (l : List Int) : (dbP l).2.length ≤ l.length := by
  have h1 := smP_len l
  have h2 := rbytes_len 99 (smP l).2
  show (rbytes 99 (smP l).2).2.2.length ≤ _
  omega
theorem dnP_len (l : List Int) : (dnP l).2.length ≤ l.length := by
  have h1 := dbP_len l
  have h2 := smP_len (dbP l).2
  show (smP (dbP l).2).2.length ≤ _
  omega
theorem dsP_len (l : List Int) : (dsP l).2.length ≤ l.length := by
  have h1 := smP_len l
  have h2 := dnP_len (smP l).2
  have h3 := smP_len (dnP (smP l).2).2
  show (smP (dnP (smP l).2).2).2.length ≤ _
  omega
theorem lab_len (l : List Int) : (dlP l).1.size ≤ 1000000 := by
  unfold dlP
  show (strOfNums (rbytes 99 l).1).size ≤ _
  rw [str_size]
  unfold rbytes
  split
  · split
    · simp
    · have := rcount_le (most := 99) (l := l) (by omega)
      show ((rcount 99 l).2.2.take (rcount 99 l).1.toNat).length ≤ _
      rw [List.length_take]
      omega
  · simp
theorem label_lenB (l : List Int) : (dbP l).1.2.size ≤ 1000000 := lab_len _
theorem label_lenN (l : List Int) : (dnP l).1.2.1.size ≤ 1000000 := lab_len _
theorem label_lenS (l : List Int) : (dsP l).1.2.2.1.size ≤ 1000000 := lab_len _
theorem ints8 (l : List UInt8) : ∀ z ∈ ints l, 0 ≤ z ∧ z ≤ 255 := fun z hz => by
  unfold ints at hz
  rw [List.mem_map] at hz
  obtain ⟨u, _, rfl⟩ := hz
  have := u.toNat_lt
  omega
theorem form8B {r : Int} {l : ByteArray} (_h : True) : ∀ y ∈ brL r l, 0 ≤ y ∧ y ≤ 255 := by
  intro y hy
  unfold brL at hy
  simp only [List.mem_append] at hy
  rcases hy with h | h | h
  · exact Plain.numL_bytes _ y h
  · exact Plain.numL_bytes _ y h
  · exact ints8 _ y h
theorem form8N {r n : Int} {l : ByteArray} (_h : True) : ∀ y ∈ nmL r l n, 0 ≤ y ∧ y ≤ 255 := by
  intro y hy
  unfold nmL at hy
  rcases List.mem_append.1 hy with h | h
  · exact form8B trivial y h
  · exact Plain.numL_bytes _ y h
theorem form8S {g r n x : Int} {l : ByteArray} (_h : True) : ∀ y ∈ stL g r l n x, 0 ≤ y ∧ y ≤ 255 := by
  intro y hy
  unfold stL at hy
  rcases List.mem_append.1 hy with h | h
  · rcases List.mem_append.1 h with h | h
    · exact Plain.numL_bytes _ y h
    · exact form8N trivial y h
  · exact Plain.numL_bytes _ y h
theorem strI_inj {X Y : List Int} (hx : ∀ y ∈ X, 0 ≤ y ∧ y ≤ 255) (hy : ∀ y ∈ Y, 0 ≤ y ∧ y ≤ 255) (h : (strOfNums X).data.toList = (strOfNums Y).data.toList) : X = Y := by
  rw [← ints_str hx, ← ints_str hy, h]
set_option maxHeartbeats 4000000 in
set_option maxRecDepth 100000 in
theorem takeDB_any (D : Nat) (LB l : List Int) (w : World) (hD : Doc T w D LB l) : Calls Tryz.prog 36 #[.pointer (some ⟨D, 0, none⟩)] w fun e w' => e = .returned (.tuple #[.agg #[.int .i64 (tkB0 l), .string (tkB1 l)], .int .i64 (if tkBV l then 0 else 4)]) ∧ Doc T w' D LB (tkBL l) ∧ Only (fun j => j = D) w w' := by
  have hlt := hD.lt
  have hDc := hD
  obtain ⟨bo0, cap0, at1, hh0, _, _, _, _, hLB, _, h8, hat1, hl1⟩ := hDc
  have hl8 : ∀ y ∈ l, 0 ≤ y ∧ y ≤ 255 := fun y hy => h8 y (by rw [hl1] at hy; exact List.mem_of_mem_drop hy)
  obtain ⟨hVe, hVv⟩ := dB_eq hl8
  have hlen2 := dbP_len l
  have hn := heap_alloc_new w (.cells #[.int .i64 0, .string ⟨#[]⟩] 23)
  have hz0 : w.heap.size < (w.alloc (.cells #[.int .i64 0, .string ⟨#[]⟩] 23)).heap.size := by simp
  have HO0 : Hid (Only (fun j => j = D) w (w.alloc (.cells #[.int .i64 0, .string ⟨#[]⟩] 23))) := hide (Only.alloc (Only.refl _ _) _)
  obtain ⟨d0, d1, _, _⟩ := blk2 ((Below.heap_alloc w (.cells #[.int .i64 0, .string ⟨#[]⟩] 23) D hlt).trans hh0)
  obtain ⟨PV, hPV⟩ : ∃ PV, PV = tkBV l := ⟨_, rfl⟩
  obtain ⟨E0, hE0⟩ : ∃ E0 : Int, E0 = (if tkBV l then 0 else 4) := ⟨_, rfl⟩
  obtain ⟨A0, hA0⟩ : ∃ A0, A0 = tkB0 l := ⟨_, rfl⟩
  obtain ⟨A1, hA1⟩ : ∃ A1, A1 = tkB1 l := ⟨_, rfl⟩
  obtain ⟨L0, hL0⟩ : ∃ L0, L0 = tkBL l := ⟨_, rfl⟩
  rw [← hE0, ← hL0, ← hA0, ← hA1]
  have hF : PV = false → A0 = 0 ∧ A1 = ⟨#[]⟩ ∧ L0 = l ∧ E0 = 4 := fun h => by rw [h] at hPV; rw [hA0, hA1, hL0, hE0]; unfold tkB0 tkB1 tkBL; rw [← hPV]; exact ⟨rfl, rfl, rfl, rfl⟩
  have hT : PV = true → A0 = (dbP l).1.1 ∧ A1 = (dbP l).1.2 ∧ L0 = (dbP l).2 ∧ E0 = 0 := fun h => by
    rw [h] at hPV
    obtain ⟨e0, e1, eL⟩ := hVv hPV.symm
    refine ⟨by rw [hA0, e0], by rw [hA1, e1], by rw [hL0, eL], by rw [hE0, ← hPV]; rfl⟩
  rw [← hPV] at hVe
  clear hPV hE0 hL0 hVv hA0 hA1
  have hv : ∀ W, Calls Tryz.prog 22 #[.agg #[.int .i64 (dbP l).1.1, .string (dbP l).1.2]] W fun e w' => e = .returned (.bool (branchV (dbP l).1.1 (dbP l).1.2)) ∧ Below W.heap.size W w' := fun W => refBranch_any (dbP l).1.1 (dbP l).1.2 W (label_lenB l)
  have hp : branchV (dbP l).1.1 (dbP l).1.2 = true → ∀ W, Calls Tryz.prog 29 #[.agg #[.int .i64 (dbP l).1.1, .string (dbP l).1.2]] W fun e w' => Made 5 W w' e (brL (dbP l).1.1 (dbP l).1.2) := fun hv W => by
    have := B_bounds hv
    exact refPutBranch_any (dbP l).1.1 (dbP l).1.2 W (by omega) (by omega) (by omega)
  obtain ⟨FM, hFM⟩ : ∃ FM, FM = brL (dbP l).1.1 (dbP l).1.2 := ⟨_, rfl⟩
  have hFM8 : branchV (dbP l).1.1 (dbP l).1.2 = true → ∀ y ∈ FM, 0 ≤ y ∧ y ≤ 255 := fun _ => by rw [hFM]; exact form8B trivial
  rw [← hFM] at hp hVe
  clear hFM
  have hrd := dbranch_any D LB l _ (hD.alloc (.cells #[.int .i64 0, .string ⟨#[]⟩] 23))
  generalize branchV (dbP l).1.1 (dbP l).1.2 = VV at hv hp hVe hFM8
  generalize (dbP l).1.1 = P0 at hv hp hT hrd
  generalize (dbP l).1.2 = P1 at hv hp hT hrd
  generalize (dbP l).2 = l' at hT hVe hlen2 hrd
  have HV := hide (And.intro hVe (And.intro hF hT))
  clear hVe hF hT hD hh0
  go_enter Tryz.func36, Tryz.ntmps36
  go_upto_region 3 with (go_at_call 83; refine hrd.mono ?_; rintro e w1 ⟨rfl, hD1, o1⟩)
  have HDoc := hide (Doc.drew (hD1.alloc (.cells #[.int .i64 P0, .string P1] 23)))
  have HD := hide (Only.drew ((HO0.out.trans' o1).alloc (.cells #[.int .i64 P0, .string P1] 23)))
  have HQ := hide ((Below.heap_alloc w1 (.cells #[.int .i64 P0, .string P1] 23) _ (Nat.lt_of_lt_of_le hz0 o1.size)).trans ((o1.block _ hz0 (by omega)).trans hn))
  have hV0 := heap_alloc_new w1 (.cells #[.int .i64 P0, .string P1] 23)
  have hQV : w.heap.size < w1.heap.size := Nat.lt_of_lt_of_le hz0 o1.size
  generalize w1.alloc (.cells #[.int .i64 P0, .string P1] 23) = W2 at HDoc HD HQ hV0 ⊢
  generalize w1.heap.size = Vb at hV0 hQV ⊢
  clear hD1 o1
  obtain ⟨bo, cap, at2, hh2, hr2, hnil2, hlc2, hcm2, _, hbl2, _, hat2, hl2⟩ := HDoc.out
  have hlen1 : l.length = LB.length - at1 := by rw [hl1]; simp
  have hlen3 : l'.length = LB.length - at2 := by rw [hl2]; simp
  have hle : at1 ≤ at2 := by omega
  obtain ⟨A, hsl, hRA⟩ := slice_rd (n := LB.length) (cap := cap) hr2 rfl hle hat2 hlc2
  obtain ⟨SUB, hSUB⟩ : ∃ SUB, SUB = (LB.drop at1).take (at2 - at1) := ⟨_, rfl⟩
  rw [← hSUB] at hRA
  have hSUBe : SUB = l.take (l.length - l'.length) := by rw [hSUB, ← hl1]; congr 1; omega
  have hsub : SUB.length = at2 - at1 := by rw [hSUB]; simp; omega
  have hSub8 : ∀ y ∈ SUB, 0 ≤ y ∧ y ≤ 255 := fun y hy => hl8 y (by rw [hSUBe] at hy; exact List.mem_of_mem_take hy)
  have hS : W2.drew.heap[Vb]? = some (.cells #[.int .i64 P0, .string P1] 23) ∧ W2.drew.heap[D]? = some (.cells #[.slice bo LB.length cap, .int .i64 (at2 : Int)] 59) ∧ Rd W2.drew A SUB := ⟨hV0, hh2, hRA⟩
  replace HQ : Hid (W2.drew.heap[w.heap.size]? = some (.cells #[.int .i64 0, .string ⟨#[]⟩] 23)) := HQ
  have HH := hide (And.intro hl1 (And.intro hat1 (And.intro hLB (And.intro hl2 (And.intro hat2 hSUBe)))))
  have HVV : Hid (PV = (VV && decide (SUB = FM))) := hide (by rw [hSUBe]; exact HV.out.1.symm)
  clear hV0 hh2 hr2 hnil2 hcm2 hbl2 hl2 hl1 hSUB hSUBe hRA hrd h8 hl8 hLB
  cases VV with
  | false =>
    have hpv : PV = false := by rw [HVV.out]; rfl
    clear hp hFM8
    refine wp_region_held_drew (S := (fun w' => w'.heap[Vb]? = some (.cells #[.int .i64 P0, .string P1] 23) ∧ w'.heap[D]? = some (.cells #[.slice bo LB.length cap, .int .i64 (at2 : Int)] 59) ∧ Rd w' A SUB)) (by kernel_rfl) (by exact hS) (fun hHeld => ?_)
    try dsimp only at hHeld
    generalize W2.drew = W3 at hHeld HD HDoc HQ ⊢
    refine take_op (i := 0) (d := 12) (OP := Op.load 23 (Operand.tmp 5)) (T := 23) (v := .agg #[.int .i64 P0, .string P1]) rfl rfl rfl rfl (by kernel_rfl) (by kernel_rfl) (by kernel_rfl) (fun _ _ _ h => h) (by rfl) (fun w' hSw => exec_ld23 rfl hSw.1) hHeld ?_
    try simp only [Act.put, List.setIfInBounds_toArray, List.set_cons_zero, List.set_cons_succ]
    refine call_op (i := 1) (d := 13) (OP := Op.call { callee := Callee.value (Operand.func 22), args := #[Operand.tmp 12], argTypes := #[23] }) (T := 4) (f := 22) (args := #[.agg #[.int .i64 P0, .string P1]]) rfl rfl rfl rfl (by kernel_rfl) (by rfl) (by go_simp) ?_
    refine (hv _).mono ?_
    rintro e q1 ⟨rfl, bb⟩
    have hSq1 : q1.heap[Vb]? = some (.cells #[.int .i64 P0, .string P1] 23) ∧ q1.heap[D]? = some (.cells #[.slice bo LB.length cap, .int .i64 (at2 : Int)] 59) ∧ Rd q1 A SUB := ⟨keptB' bb hHeld.1, keptB' bb hHeld.2.1, hHeld.2.2.below bb⟩
    replace HD := hide (HD.out.trans' ((Only.ofBelow bb).mono (fun _ _ c => c.elim)))
    replace HDoc := hide (HDoc.out.kept (row := none) (grown_of_below bb) (by simp))
    replace HQ := hide (keptB' bb HQ.out)
    clear bb
    refine ⟨_, rfl, hSq1, ?_⟩
    replace hHeld := hSq1
    try simp only [Act.put, List.setIfInBounds_toArray, List.set_cons_zero, List.set_cons_succ]
    refine take_op (i := 2) (d := 14) (OP := Op.unOp UnOp.not 4 (Operand.tmp 13)) (T := 4) (v := ?vy1x) rfl rfl rfl rfl (by kernel_rfl) (by kernel_rfl) (by kernel_rfl) (fun _ _ _ h => h) (by rfl) ?hy1x hHeld ?ry1x
    case hy1x => (intro w' hSw; (try dsimp only at hSw); go_simp <;> with_reducible rfl)
    try simp only [Act.put, List.setIfInBounds_toArray, List.set_cons_zero, List.set_cons_succ]
    refine take_op (i := 3) (d := 15) (OP := Op.move (Operand.tmp 14)) (T := 4) (v := ?vy2x) rfl rfl rfl rfl (by kernel_rfl) (by kernel_rfl) (by kernel_rfl) (fun _ _ _ h => h) (by rfl) ?hy2x hHeld ?ry2x
    case hy2x => (intro w' hSw; (try dsimp only at hSw); go_simp <;> with_reducible rfl)
    try simp only [Act.put, List.setIfInBounds_toArray, List.set_cons_zero, List.set_cons_succ]
    refine pass_op (i := 4) (d := 16) rfl rfl (by kernel_rfl) (by kernel_rfl) (by kernel_rfl) (fun _ _ _ h => h) (by rfl) hHeld ?_
    try simp only [Act.put, List.setIfInBounds_toArray, List.set_cons_zero, List.set_cons_succ]
    refine pass_op (i := 5) (d := 17) rfl rfl (by kernel_rfl) (by kernel_rfl) (by kernel_rfl) (fun _ _ _ h => h) (by rfl) hHeld ?_
    try simp only [Act.put, List.setIfInBounds_toArray, List.set_cons_zero, List.set_cons_succ]
    refine pass_op (i := 6) (d := 18) rfl rfl (by kernel_rfl) (by kernel_rfl) (by kernel_rfl) (fun _ _ _ h => h) (by rfl) hHeld ?_
    try simp only [Act.put, List.setIfInBounds_toArray, List.set_cons_zero, List.set_cons_succ]
    refine pass_op (i := 7) (d := 19) rfl rfl (by kernel_rfl) (by kernel_rfl) (by kernel_rfl) (fun _ _ _ h => h) (by rfl) hHeld ?_
    try simp only [Act.put, List.setIfInBounds_toArray, List.set_cons_zero, List.set_cons_succ]
    refine pass_op (i := 8) (d := 20) rfl rfl (by kernel_rfl) (by kernel_rfl) (by kernel_rfl) (fun _ _ _ h => h) (by rfl) hHeld ?_
    try simp only [Act.put, List.setIfInBounds_toArray, List.set_cons_zero, List.set_cons_succ]
    refine pass_op (i := 9) (d := 21) rfl rfl (by kernel_rfl) (by kernel_rfl) (by kernel_rfl) (fun _ _ _ h => h) (by rfl) hHeld ?_
    try simp only [Act.put, List.setIfInBounds_toArray, List.set_cons_zero, List.set_cons_succ]
    refine pass_op (i := 10) (d := 22) rfl rfl (by kernel_rfl) (by kernel_rfl) (by kernel_rfl) (fun _ _ _ h => h) (by rfl) hHeld ?_
    try simp only [Act.put, List.setIfInBounds_toArray, List.set_cons_zero, List.set_cons_succ]
    refine pass_op (i := 11) (d := 23) rfl rfl (by kernel_rfl) (by kernel_rfl) (by kernel_rfl) (fun _ _ _ h => h) (by rfl) hHeld ?_
    try simp only [Act.put, List.setIfInBounds_toArray, List.set_cons_zero, List.set_cons_succ]
    refine pass_op (i := 12) (d := 24) rfl rfl (by kernel_rfl) (by kernel_rfl) (by kernel_rfl) (fun _ _ _ h => h) (by rfl) hHeld ?_
    try simp only [Act.put, List.setIfInBounds_toArray, List.set_cons_zero, List.set_cons_succ]
    refine pass_op (i := 13) (d := 25) rfl rfl (by kernel_rfl) (by kernel_rfl) (by kernel_rfl) (fun _ _ _ h => h) (by rfl) hHeld ?_
    try simp only [Act.put, List.setIfInBounds_toArray, List.set_cons_zero, List.set_cons_succ]
    refine pass_op (i := 14) (d := 26) rfl rfl (by kernel_rfl) (by kernel_rfl) (by kernel_rfl) (fun _ _ _ h => h) (by rfl) hHeld ?_
    try simp only [Act.put, List.setIfInBounds_toArray, List.set_cons_zero, List.set_cons_succ]
    refine pass_op (i := 15) (d := 27) rfl rfl (by kernel_rfl) (by kernel_rfl) (by kernel_rfl) (fun _ _ _ h => h) (by rfl) hHeld ?_
    try simp only [Act.put, List.setIfInBounds_toArray, List.set_cons_zero, List.set_cons_succ]
    refine pass_op (i := 16) (d := 28) rfl rfl (by kernel_rfl) (by kernel_rfl) (by kernel_rfl) (fun _ _ _ h => h) (by rfl) hHeld ?_
    try simp only [Act.put, List.setIfInBounds_toArray, List.set_cons_zero, List.set_cons_succ]
    refine pass_op (i := 17) (d := 29) rfl rfl (by kernel_rfl) (by kernel_rfl) (by kernel_rfl) (fun _ _ _ h => h) (by rfl) hHeld ?_
    try simp only [Act.put, List.setIfInBounds_toArray, List.set_cons_zero, List.set_cons_succ]
    refine pass_op (i := 18) (d := 30) rfl rfl (by kernel_rfl) (by kernel_rfl) (by kernel_rfl) (fun _ _ _ h => h) (by rfl) hHeld ?_
    try simp only [Act.put, List.setIfInBounds_toArray, List.set_cons_zero, List.set_cons_succ]
    refine take_op (i := 19) (d := 31) (OP := Op.pick (Operand.tmp 15) (Operand.const (Value.bool true)) (Operand.tmp 30)) (T := 4) (v := ?vy18x) rfl rfl rfl rfl (by kernel_rfl) (by kernel_rfl) (by kernel_rfl) (fun _ _ _ h => h) (by rfl) ?hy18x hHeld ?ry18x
    case hy18x => (intro w' hSw; (try dsimp only at hSw); go_simp <;> with_reducible rfl)
    try simp only [Act.put, List.setIfInBounds_toArray, List.set_cons_zero, List.set_cons_succ]
    refine wpAnyH_done (by kernel_rfl) ?_ _
    clear hsl
    generalize hW9 : q1 = W9 at hHeld HD HDoc HQ ⊢
    have HEQ := hide (HV.out.2.1 hpv)
    obtain ⟨y0, y1, yf0, yf1⟩ := blk2 hHeld.2.1
    have HQ2 : Hid ((W9.setCell ⟨D, 1, none⟩ (.int .i64 (at1 : Int))).heap[w.heap.size]? = some (.cells #[.int .i64 0, .string ⟨#[]⟩] 23)) := hide (by rw [Below.heap_setCell _ _ _ _ (by show w.heap.size ≠ D; omega)]; exact HQ.out)
    obtain ⟨z0, z1, zf0, zf1⟩ := blk2 HQ2.out
    have HDo2 := hide (Doc.back0 HDoc.out HH.out.2.1 HH.out.1)
    have HO2 : Hid (Only (fun j => j = D) w (W9.setCell ⟨D, 1, none⟩ (.int .i64 (at1 : Int)))) := hide (HD.out.setCell ⟨D, 1, none⟩ _ (fun _ => rfl))
    clear hHeld HV HVV
    go_wp2
    refine ret_row_tmp w.heap.size [.int .i64 0, .string ⟨#[]⟩] rfl rfl rfl Tryz.underlying23 rfl (by kernel_rfl) (t := 23) (fr := (0, 0)) (set2 HQ2.out) rfl ?_
    exact ⟨by rw [(HEQ.out.1), (HEQ.out.2.1), (HEQ.out.2.2.2)] <;> rfl, by rw [HEQ.out.2.2.1]; exact ((HDo2.out.only (by omega) _).only (by omega) _), ((HO2.out.fresh (Nat.le_refl _) _).fresh (Nat.le_refl _) _)⟩
  | true =>
    have hpp := hp rfl
    have hf8 := hFM8 rfl
    clear hp hFM8
    by_cases hsf : SUB = FM
    · have hpv : PV = true := by rw [HVV.out, hsf]; simp
      have HEQ := hide (HV.out.2.2 hpv)
      have hnq : ((strOfNums SUB).toList == (strOfNums FM).toList) = true := by rw [hsf]; simp
      clear HV HVV hpv hf8 hsf hSub8
      refine wp_region_held_drew (S := (fun w' => w'.heap[Vb]? = some (.cells #[.int .i64 P0, .string P1] 23) ∧ w'.heap[D]? = some (.cells #[.slice bo LB.length cap, .int .i64 (at2 : Int)] 59) ∧ Rd w' A SUB)) (by kernel_rfl) (by exact hS) (fun hHeld => ?_)
      try dsimp only at hHeld
      generalize W2.drew = W3 at hHeld HD HDoc HQ ⊢
      refine take_op (i := 0) (d := 12) (OP := Op.load 23 (Operand.tmp 5)) (T := 23) (v := .agg #[.int .i64 P0, .string P1]) rfl rfl rfl rfl (by kernel_rfl) (by kernel_rfl) (by kernel_rfl) (fun _ _ _ h => h) (by rfl) (fun w' hSw => exec_ld23 rfl hSw.1) hHeld ?_
      try simp only [Act.put, List.setIfInBounds_toArray, List.set_cons_zero, List.set_cons_succ]
      refine call_op (i := 1) (d := 13) (OP := Op.call { callee := Callee.value (Operand.func 22), args := #[Operand.tmp 12], argTypes := #[23] }) (T := 4) (f := 22) (args := #[.agg #[.int .i64 P0, .string P1]]) rfl rfl rfl rfl (by kernel_rfl) (by rfl) (by go_simp) ?_
      refine (hv _).mono ?_
      rintro e q1 ⟨rfl, bb⟩
      have hSq1 : q1.heap[Vb]? = some (.cells #[.int .i64 P0, .string P1] 23) ∧ q1.heap[D]? = some (.cells #[.slice bo LB.length cap, .int .i64 (at2 : Int)] 59) ∧ Rd q1 A SUB := ⟨keptB' bb hHeld.1, keptB' bb hHeld.2.1, hHeld.2.2.below bb⟩
      replace HD := hide (HD.out.trans' ((Only.ofBelow bb).mono (fun _ _ c => c.elim)))
      replace HDoc := hide (HDoc.out.kept (row := none) (grown_of_below bb) (by simp))
      replace HQ := hide (keptB' bb HQ.out)
      clear bb
      refine ⟨_, rfl, hSq1, ?_⟩
      replace hHeld := hSq1
      try simp only [Act.put, List.setIfInBounds_toArray, List.set_cons_zero, List.set_cons_succ]
      refine take_op (i := 2) (d := 14) (OP := Op.unOp UnOp.not 4 (Operand.tmp 13)) (T := 4) (v := ?vy19x) rfl rfl rfl rfl (by kernel_rfl) (by kernel_rfl) (by kernel_rfl) (fun _ _ _ h => h) (by rfl) ?hy19x hHeld ?ry19x
      case hy19x => (intro w' hSw; (try dsimp only at hSw); go_simp <;> with_reducible rfl)
      try simp only [Act.put, List.setIfInBounds_toArray, List.set_cons_zero, List.set_cons_succ]
      refine take_op (i := 3) (d := 15) (OP := Op.move (Operand.tmp 14)) (T := 4) (v := ?vy20x) rfl rfl rfl rfl (by kernel_rfl) (by kernel_rfl) (by kernel_rfl) (fun _ _ _ h => h) (by rfl) ?hy20x hHeld ?ry20x
      case hy20x => (intro w' hSw; (try dsimp only at hSw); go_simp <;> with_reducible rfl)
      try simp only [Act.put, List.setIfInBounds_toArray, List.set_cons_zero, List.set_cons_succ]
      refine take_op (i := 4) (d := 16) (OP := Op.move (Operand.tmp 0)) (T := 57) (v := ?vy21x) rfl rfl rfl rfl (by kernel_rfl) (by kernel_rfl) (by kernel_rfl) (fun _ _ _ h => h) (by rfl) ?hy21x hHeld ?ry21x
      case hy21x => (intro w' hSw; (try dsimp only at hSw); go_simp <;> with_reducible rfl)
      try simp only [Act.put, List.setIfInBounds_toArray, List.set_cons_zero, List.set_cons_succ]
      refine take_op (i := 5) (d := 17) (OP := Op.nilCheck (Operand.tmp 16)) (T := 0) (v := .pointer (some ⟨D, 0, none⟩)) rfl rfl rfl rfl (by kernel_rfl) (by kernel_rfl) (by kernel_rfl) (fun _ _ _ h => h) (by rfl) (fun w' _ => exec_nil rfl) hHeld ?_
      try simp only [Act.put, List.setIfInBounds_toArray, List.set_cons_zero, List.set_cons_succ]
      refine take_op (i := 6) (d := 18) (OP := Op.fieldAddr 59 (Operand.tmp 17) 0) (T := 0) (v := .pointer (some ⟨D, 0, none⟩)) rfl rfl rfl rfl (by kernel_rfl) (by kernel_rfl) (by kernel_rfl) (fun _ _ _ h => h) (by rfl) (fun w' _ => exec_fa59_0 rfl) hHeld ?_
      try simp only [Act.put, List.setIfInBounds_toArray, List.set_cons_zero, List.set_cons_succ]
      refine take_op (i := 7) (d := 19) (OP := Op.load 29 (Operand.tmp 18)) (T := 29) (v := .slice bo LB.length cap) rfl rfl rfl rfl (by kernel_rfl) (by kernel_rfl) (by kernel_rfl) (fun _ _ _ h => h) (by rfl) (fun w' hSw => exec_ld29 rfl (blk2 hSw.2.1).1) hHeld ?_
      try simp only [Act.put, List.setIfInBounds_toArray, List.set_cons_zero, List.set_cons_succ]
      refine take_op (i := 8) (d := 20) (OP := Op.move (Operand.tmp 4)) (T := 3) (v := ?vy22x) rfl rfl rfl rfl (by kernel_rfl) (by kernel_rfl) (by kernel_rfl) (fun _ _ _ h => h) (by rfl) ?hy22x hHeld ?ry22x
      case hy22x => (intro w' hSw; (try dsimp only at hSw); go_simp <;> with_reducible rfl)
      try simp only [Act.put, List.setIfInBounds_toArray, List.set_cons_zero, List.set_cons_succ]
      refine take_op (i := 9) (d := 21) (OP := Op.move (Operand.tmp 0)) (T := 57) (v := ?vy23x) rfl rfl rfl rfl (by kernel_rfl) (by kernel_rfl) (by kernel_rfl) (fun _ _ _ h => h) (by rfl) ?hy23x hHeld ?ry23x
      case hy23x => (intro w' hSw; (try dsimp only at hSw); go_simp <;> with_reducible rfl)
      try simp only [Act.put, List.setIfInBounds_toArray, List.set_cons_zero, List.set_cons_succ]
      refine take_op (i := 10) (d := 22) (OP := Op.nilCheck (Operand.tmp 21)) (T := 0) (v := .pointer (some ⟨D, 0, none⟩)) rfl rfl rfl rfl (by kernel_rfl) (by kernel_rfl) (by kernel_rfl) (fun _ _ _ h => h) (by rfl) (fun w' _ => exec_nil rfl) hHeld ?_
      try simp only [Act.put, List.setIfInBounds_toArray, List.set_cons_zero, List.set_cons_succ]
      refine take_op (i := 11) (d := 23) (OP := Op.fieldAddr 59 (Operand.tmp 22) 1) (T := 0) (v := .pointer (some ⟨D, 1, none⟩)) rfl rfl rfl rfl (by kernel_rfl) (by kernel_rfl) (by kernel_rfl) (fun _ _ _ h => h) (by rfl) (fun w' _ => exec_fa59_1 rfl) hHeld ?_
      try simp only [Act.put, List.setIfInBounds_toArray, List.set_cons_zero, List.set_cons_succ]
      refine take_op (i := 12) (d := 24) (OP := Op.load 3 (Operand.tmp 23)) (T := 3) (v := .int .i64 (at2 : Int)) rfl rfl rfl rfl (by kernel_rfl) (by kernel_rfl) (by kernel_rfl) (fun _ _ _ h => h) (by rfl) (fun w' hSw => exec_ld3 rfl (blk2 hSw.2.1).2.1) hHeld ?_
      try simp only [Act.put, List.setIfInBounds_toArray, List.set_cons_zero, List.set_cons_succ]
      refine take_op (i := 13) (d := 25) (OP := Op.slice 29 (Operand.tmp 19) (some (Operand.tmp 20)) (some (Operand.tmp 24)) none) (T := 29) (v := .slice A (at2 - at1) (cap - at1)) rfl rfl rfl rfl (by kernel_rfl) (by kernel_rfl) (by kernel_rfl) (fun _ _ _ h => h) (by rfl) (fun w' _ => exec_slc rfl rfl rfl (hsl w')) hHeld ?_
      try simp only [Act.put, List.setIfInBounds_toArray, List.set_cons_zero, List.set_cons_succ]
      refine take_op (i := 14) (d := 26) (OP := Op.convert 29 9 (Operand.tmp 25)) (T := 9) (v := .string (strOfNums SUB)) rfl rfl rfl rfl (by kernel_rfl) (by kernel_rfl) (by kernel_rfl) (fun _ _ _ h => h) (by rfl) (fun w' hSw => exec_conv2 (v := .slice A (at2 - at1) (cap - at1)) rfl (conv_rd (n := at2 - at1) (cap := cap - at1) hSw.2.2 hsub)) hHeld ?_
      try simp only [Act.put, List.setIfInBounds_toArray, List.set_cons_zero, List.set_cons_succ]
      refine take_op (i := 15) (d := 27) (OP := Op.load 23 (Operand.tmp 5)) (T := 23) (v := .agg #[.int .i64 P0, .string P1]) rfl rfl rfl rfl (by kernel_rfl) (by kernel_rfl) (by kernel_rfl) (fun _ _ _ h => h) (by rfl) (fun w' hSw => exec_ld23 rfl hSw.1) hHeld ?_
      try simp only [Act.put, List.setIfInBounds_toArray, List.set_cons_zero, List.set_cons_succ]
      refine call_op (i := 16) (d := 28) (OP := Op.call { callee := Callee.value (Operand.func 29), args := #[Operand.tmp 27], argTypes := #[23] }) (T := 29) (f := 29) (args := #[.agg #[.int .i64 P0, .string P1]]) rfl rfl rfl rfl (by kernel_rfl) (by rfl) (by go_simp) ?_
      refine (hpp _).mono ?_
      rintro e q2 ⟨ap, cp, rfl, RP0, _, bb⟩
      have RP := RP0.rd
      have hSq2 : q2.heap[Vb]? = some (.cells #[.int .i64 P0, .string P1] 23) ∧ q2.heap[D]? = some (.cells #[.slice bo LB.length cap, .int .i64 (at2 : Int)] 59) ∧ Rd q2 A SUB := ⟨keptB' bb hHeld.1, keptB' bb hHeld.2.1, hHeld.2.2.below bb⟩
      replace HD := hide (HD.out.trans' ((Only.ofBelow bb).mono (fun _ _ c => c.elim)))
      replace HDoc := hide (HDoc.out.kept (row := none) (grown_of_below bb) (by simp))
      replace HQ := hide (keptB' bb HQ.out)
      clear bb
      refine ⟨_, rfl, hSq2, ?_⟩
      replace hHeld := hSq2
      try simp only [Act.put, List.setIfInBounds_toArray, List.set_cons_zero, List.set_cons_succ]
      refine alone_op (i := 17) (d := 29) (OP := Op.convert 29 9 (Operand.tmp 28)) (T := 9) (v := .string (strOfNums FM)) rfl rfl rfl rfl (by kernel_rfl) (by rfl) (exec_conv2 (v := .slice ap FM.length cp) rfl (conv_rd (n := FM.length) (cap := cp) RP rfl)) hHeld ?_
      try simp only [Act.put, List.setIfInBounds_toArray, List.set_cons_zero, List.set_cons_succ]
      refine take_op (i := 18) (d := 30) (OP := Op.binOp BinOp.neq 9 (Operand.tmp 26) (Operand.tmp 29) 9) (T := 4) (v := ?vy24x) rfl rfl rfl rfl (by kernel_rfl) (by kernel_rfl) (by kernel_rfl) (fun _ _ _ h => h) (by rfl) ?hy24x hHeld ?ry24x
      case hy24x => (intro w' hSw; (try dsimp only at hSw); go_simp <;> with_reducible rfl)
      try simp only [Act.put, List.setIfInBounds_toArray, List.set_cons_zero, List.set_cons_succ]
      refine take_op (i := 19) (d := 31) (OP := Op.pick (Operand.tmp 15) (Operand.const (Value.bool true)) (Operand.tmp 30)) (T := 4) (v := ?vy25x) rfl rfl rfl rfl (by kernel_rfl) (by kernel_rfl) (by kernel_rfl) (fun _ _ _ h => h) (by rfl) ?hy25x hHeld ?ry25x
      case hy25x => (intro w' hSw; (try dsimp only at hSw); go_simp <;> with_reducible rfl)
      try simp only [Act.put, List.setIfInBounds_toArray, List.set_cons_zero, List.set_cons_succ]
      refine wpAnyH_done (by kernel_rfl) ?_ _
      clear hsl
      obtain ⟨z0, z1, zf0, zf1⟩ := blk2 HQ.out
      obtain ⟨y0, y1, _, _⟩ := blk2 hHeld.1
      clear hHeld
      go_wp2
      refine ret_row_tmp w.heap.size [.int .i64 P0, .string P1] rfl rfl rfl Tryz.underlying23 rfl (by kernel_rfl) (t := 23) (fr := (0, 0)) (set2 HQ.out) rfl ?_
      exact ⟨by rw [(HEQ.out.1), (HEQ.out.2.1), (HEQ.out.2.2.2)] <;> rfl, by rw [HEQ.out.2.2.1]; exact ((HDoc.out.only (by omega) _).only (by omega) _), ((HD.out.fresh (Nat.le_refl _) _).fresh (Nat.le_refl _) _)⟩
    · have hpv : PV = false := by rw [HVV.out]; simp [hsf]
      have hnq : ((strOfNums SUB).toList == (strOfNums FM).toList) = false := by rw [beq_eq_false_iff_ne, ByteArray.toList_eq, ByteArray.toList_eq]; exact fun h => hsf (strI_inj hSub8 hf8 h)
      clear hf8 hsf hSub8
      refine wp_region_held_drew (S := (fun w' => w'.heap[Vb]? = some (.cells #[.int .i64 P0, .string P1] 23) ∧ w'.heap[D]? = some (.cells #[.slice bo LB.length cap, .int .i64 (at2 : Int)] 59) ∧ Rd w' A SUB)) (by kernel_rfl) (by exact hS) (fun hHeld => ?_)
      try dsimp only at hHeld
      generalize W2.drew = W3 at hHeld HD HDoc HQ ⊢
      refine take_op (i := 0) (d := 12) (OP := Op.load 23 (Operand.tmp 5)) (T := 23) (v := .agg #[.int .i64 P0, .string P1]) rfl rfl rfl rfl (by kernel_rfl) (by kernel_rfl) (by kernel_rfl) (fun _ _ _ h => h) (by rfl) (fun w' hSw => exec_ld23 rfl hSw.1) hHeld ?_
      try simp only [Act.put, List.setIfInBounds_toArray, List.set_cons_zero, List.set_cons_succ]
      refine call_op (i := 1) (d := 13) (OP := Op.call { callee := Callee.value (Operand.func 22), args := #[Operand.tmp 12], argTypes := #[23] }) (T := 4) (f := 22) (args := #[.agg #[.int .i64 P0, .string P1]]) rfl rfl rfl rfl (by kernel_rfl) (by rfl) (by go_simp) ?_
      refine (hv _).mono ?_
      rintro e q1 ⟨rfl, bb⟩
      have hSq1 : q1.heap[Vb]? = some (.cells #[.int .i64 P0, .string P1] 23) ∧ q1.heap[D]? = some (.cells #[.slice bo LB.length cap, .int .i64 (at2 : Int)] 59) ∧ Rd q1 A SUB := ⟨keptB' bb hHeld.1, keptB' bb hHeld.2.1, hHeld.2.2.below bb⟩
      replace HD := hide (HD.out.trans' ((Only.ofBelow bb).mono (fun _ _ c => c.elim)))
      replace HDoc := hide (HDoc.out.kept (row := none) (grown_of_below bb) (by simp))
      replace HQ := hide (keptB' bb HQ.out)
      clear bb
      refine ⟨_, rfl, hSq1, ?_⟩
      replace hHeld := hSq1
      try simp only [Act.put, List.setIfInBounds_toArray, List.set_cons_zero, List.set_cons_succ]
      refine take_op (i := 2) (d := 14) (OP := Op.unOp UnOp.not 4 (Operand.tmp 13)) (T := 4) (v := ?vy26x) rfl rfl rfl rfl (by kernel_rfl) (by kernel_rfl) (by kernel_rfl) (fun _ _ _ h => h) (by rfl) ?hy26x hHeld ?ry26x
      case hy26x => (intro w' hSw; (try dsimp only at hSw); go_simp <;> with_reducible rfl)
      try simp only [Act.put, List.setIfInBounds_toArray, List.set_cons_zero, List.set_cons_succ]
      refine take_op (i := 3) (d := 15) (OP := Op.move (Operand.tmp 14)) (T := 4) (v := ?vy27x) rfl rfl rfl rfl (by kernel_rfl) (by kernel_rfl) (by kernel_rfl) (fun _ _ _ h => h) (by rfl) ?hy27x hHeld ?ry27x
      case hy27x => (intro w' hSw; (try dsimp only at hSw); go_simp <;> with_reducible rfl)
      try simp only [Act.put, List.setIfInBounds_toArray, List.set_cons_zero, List.set_cons_succ]
      refine take_op (i := 4) (d := 16) (OP := Op.move (Operand.tmp 0)) (T := 57) (v := ?vy28x) rfl rfl rfl rfl (by kernel_rfl) (by kernel_rfl) (by kernel_rfl) (fun _ _ _ h => h) (by rfl) ?hy28x hHeld ?ry28x
      case hy28x => (intro w' hSw; (try dsimp only at hSw); go_simp <;> with_reducible rfl)
      try simp only [Act.put, List.setIfInBounds_toArray, List.set_cons_zero, List.set_cons_succ]
      refine take_op (i := 5) (d := 17) (OP := Op.nilCheck (Operand.tmp 16)) (T := 0) (v := .pointer (some ⟨D, 0, none⟩)) rfl rfl rfl rfl (by kernel_rfl) (by kernel_rfl) (by kernel_rfl) (fun _ _ _ h => h) (by rfl) (fun w' _ => exec_nil rfl) hHeld ?_
      try simp only [Act.put, List.setIfInBounds_toArray, List.set_cons_zero, List.set_cons_succ]
      refine take_op (i := 6) (d := 18) (OP := Op.fieldAddr 59 (Operand.tmp 17) 0) (T := 0) (v := .pointer (some ⟨D, 0, none⟩)) rfl rfl rfl rfl (by kernel_rfl) (by kernel_rfl) (by kernel_rfl) (fun _ _ _ h => h) (by rfl) (fun w' _ => exec_fa59_0 rfl) hHeld ?_
      try simp only [Act.put, List.setIfInBounds_toArray, List.set_cons_zero, List.set_cons_succ]
      refine take_op (i := 7) (d := 19) (OP := Op.load 29 (Operand.tmp 18)) (T := 29) (v := .slice bo LB.length cap) rfl rfl rfl rfl (by kernel_rfl) (by kernel_rfl) (by kernel_rfl) (fun _ _ _ h => h) (by rfl) (fun w' hSw => exec_ld29 rfl (blk2 hSw.2.1).1) hHeld ?_
      try simp only [Act.put, List.setIfInBounds_toArray, List.set_cons_zero, List.set_cons_succ]
      refine take_op (i := 8) (d := 20) (OP := Op.move (Operand.tmp 4)) (T := 3) (v := ?vy29x) rfl rfl rfl rfl (by kernel_rfl) (by kernel_rfl) (by kernel_rfl) (fun _ _ _ h => h) (by rfl) ?hy29x hHeld ?ry29x
      case hy29x => (intro w' hSw; (try dsimp only at hSw); go_simp <;> with_reducible rfl)
      try simp only [Act.put, List.setIfInBounds_toArray, List.set_cons_zero, List.set_cons_succ]
      refine take_op (i := 9) (d := 21) (OP := Op.move (Operand.tmp 0)) (T := 57) (v := ?vy30x) rfl rfl rfl rfl (by kernel_rfl) (by kernel_rfl) (by kernel_rfl) (fun _ _ _ h => h) (by rfl) ?hy30x hHeld ?ry30x
      case hy30x => (intro w' hSw; (try dsimp only at hSw); go_simp <;> with_reducible rfl)
      try simp only [Act.put, List.setIfInBounds_toArray, List.set_cons_zero, List.set_cons_succ]
      refine take_op (i := 10) (d := 22) (OP := Op.nilCheck (Operand.tmp 21)) (T := 0) (v := .pointer (some ⟨D, 0, none⟩)) rfl rfl rfl rfl (by kernel_rfl) (by kernel_rfl) (by kernel_rfl) (fun _ _ _ h => h) (by rfl) (fun w' _ => exec_nil rfl) hHeld ?_
      try simp only [Act.put, List.setIfInBounds_toArray, List.set_cons_zero, List.set_cons_succ]
      refine take_op (i := 11) (d := 23) (OP := Op.fieldAddr 59 (Operand.tmp 22) 1) (T := 0) (v := .pointer (some ⟨D, 1, none⟩)) rfl rfl rfl rfl (by kernel_rfl) (by kernel_rfl) (by kernel_rfl) (fun _ _ _ h => h) (by rfl) (fun w' _ => exec_fa59_1 rfl) hHeld ?_
      try simp only [Act.put, List.setIfInBounds_toArray, List.set_cons_zero, List.set_cons_succ]
      refine take_op (i := 12) (d := 24) (OP := Op.load 3 (Operand.tmp 23)) (T := 3) (v := .int .i64 (at2 : Int)) rfl rfl rfl rfl (by kernel_rfl) (by kernel_rfl) (by kernel_rfl) (fun _ _ _ h => h) (by rfl) (fun w' hSw => exec_ld3 rfl (blk2 hSw.2.1).2.1) hHeld ?_
      try simp only [Act.put, List.setIfInBounds_toArray, List.set_cons_zero, List.set_cons_succ]
      refine take_op (i := 13) (d := 25) (OP := Op.slice 29 (Operand.tmp 19) (some (Operand.tmp 20)) (some (Operand.tmp 24)) none) (T := 29) (v := .slice A (at2 - at1) (cap - at1)) rfl rfl rfl rfl (by kernel_rfl) (by kernel_rfl) (by kernel_rfl) (fun _ _ _ h => h) (by rfl) (fun w' _ => exec_slc rfl rfl rfl (hsl w')) hHeld ?_
      try simp only [Act.put, List.setIfInBounds_toArray, List.set_cons_zero, List.set_cons_succ]
      refine take_op (i := 14) (d := 26) (OP := Op.convert 29 9 (Operand.tmp 25)) (T := 9) (v := .string (strOfNums SUB)) rfl rfl rfl rfl (by kernel_rfl) (by kernel_rfl) (by kernel_rfl) (fun _ _ _ h => h) (by rfl) (fun w' hSw => exec_conv2 (v := .slice A (at2 - at1) (cap - at1)) rfl (conv_rd (n := at2 - at1) (cap := cap - at1) hSw.2.2 hsub)) hHeld ?_
      try simp only [Act.put, List.setIfInBounds_toArray, List.set_cons_zero, List.set_cons_succ]
      refine take_op (i := 15) (d := 27) (OP := Op.load 23 (Operand.tmp 5)) (T := 23) (v := .agg #[.int .i64 P0, .string P1]) rfl rfl rfl rfl (by kernel_rfl) (by kernel_rfl) (by kernel_rfl) (fun _ _ _ h => h) (by rfl) (fun w' hSw => exec_ld23 rfl hSw.1) hHeld ?_
      try simp only [Act.put, List.setIfInBounds_toArray, List.set_cons_zero, List.set_cons_succ]
      refine call_op (i := 16) (d := 28) (OP := Op.call { callee := Callee.value (Operand.func 29), args := #[Operand.tmp 27], argTypes := #[23] }) (T := 29) (f := 29) (args := #[.agg #[.int .i64 P0, .string P1]]) rfl rfl rfl rfl (by kernel_rfl) (by rfl) (by go_simp) ?_
      refine (hpp _).mono ?_
      rintro e q2 ⟨ap, cp, rfl, RP0, _, bb⟩
      have RP := RP0.rd
      have hSq2 : q2.heap[Vb]? = some (.cells #[.int .i64 P0, .string P1] 23) ∧ q2.heap[D]? = some (.cells #[.slice bo LB.length cap, .int .i64 (at2 : Int)] 59) ∧ Rd q2 A SUB := ⟨keptB' bb hHeld.1, keptB' bb hHeld.2.1, hHeld.2.2.below bb⟩
      replace HD := hide (HD.out.trans' ((Only.ofBelow bb).mono (fun _ _ c => c.elim)))
      replace HDoc := hide (HDoc.out.kept (row := none) (grown_of_below bb) (by simp))
      replace HQ := hide (keptB' bb HQ.out)
      clear bb
      refine ⟨_, rfl, hSq2, ?_⟩
      replace hHeld := hSq2
      try simp only [Act.put, List.setIfInBounds_toArray, List.set_cons_zero, List.set_cons_succ]
      refine alone_op (i := 17) (d := 29) (OP := Op.convert 29 9 (Operand.tmp 28)) (T := 9) (v := .string (strOfNums FM)) rfl rfl rfl rfl (by kernel_rfl) (by rfl) (exec_conv2 (v := .slice ap FM.length cp) rfl (conv_rd (n := FM.length) (cap := cp) RP rfl)) hHeld ?_
      try simp only [Act.put, List.setIfInBounds_toArray, List.set_cons_zero, List.set_cons_succ]
      refine take_op (i := 18) (d := 30) (OP := Op.binOp BinOp.neq 9 (Operand.tmp 26) (Operand.tmp 29) 9) (T := 4) (v := ?vy31x) rfl rfl rfl rfl (by kernel_rfl) (by kernel_rfl) (by kernel_rfl) (fun _ _ _ h => h) (by rfl) ?hy31x hHeld ?ry31x
      case hy31x => (intro w' hSw; (try dsimp only at hSw); go_simp <;> with_reducible rfl)
      try simp only [Act.put, List.setIfInBounds_toArray, List.set_cons_zero, List.set_cons_succ]
      refine take_op (i := 19) (d := 31) (OP := Op.pick (Operand.tmp 15) (Operand.const (Value.bool true)) (Operand.tmp 30)) (T := 4) (v := ?vy32x) rfl rfl rfl rfl (by kernel_rfl) (by kernel_rfl) (by kernel_rfl) (fun _ _ _ h => h) (by rfl) ?hy32x hHeld ?ry32x
      case hy32x => (intro w' hSw; (try dsimp only at hSw); go_simp <;> with_reducible rfl)
      try simp only [Act.put, List.setIfInBounds_toArray, List.set_cons_zero, List.set_cons_succ]
      refine wpAnyH_done (by kernel_rfl) ?_ _
      clear hsl
      generalize hW9 : q2 = W9 at hHeld HD HDoc HQ ⊢
      have HEQ := hide (HV.out.2.1 hpv)
      obtain ⟨y0, y1, yf0, yf1⟩ := blk2 hHeld.2.1
      have HQ2 : Hid ((W9.setCell ⟨D, 1, none⟩ (.int .i64 (at1 : Int))).heap[w.heap.size]? = some (.cells #[.int .i64 0, .string ⟨#[]⟩] 23)) := hide (by rw [Below.heap_setCell _ _ _ _ (by show w.heap.size ≠ D; omega)]; exact HQ.out)
      obtain ⟨z0, z1, zf0, zf1⟩ := blk2 HQ2.out
      have HDo2 := hide (Doc.back0 HDoc.out HH.out.2.1 HH.out.1)
      have HO2 : Hid (Only (fun j => j = D) w (W9.setCell ⟨D, 1, none⟩ (.int .i64 (at1 : Int)))) := hide (HD.out.setCell ⟨D, 1, none⟩ _ (fun _ => rfl))
      clear hHeld HV HVV
      go_wp2
      refine ret_row_tmp w.heap.size [.int .i64 0, .string ⟨#[]⟩] rfl rfl rfl Tryz.underlying23 rfl (by kernel_rfl) (t := 23) (fr := (0, 0)) (set2 HQ2.out) rfl ?_
      exact ⟨by rw [(HEQ.out.1), (HEQ.out.2.1), (HEQ.out.2.2.2)] <;> rfl, by rw [HEQ.out.2.2.1]; exact ((HDo2.out.only (by omega) _).only (by omega) _), ((HO2.out.fresh (Nat.le_refl _) _).fresh (Nat.le_refl _) _)⟩
end Go.Proofs.YtkjabnpniingnaaGreatDoor
