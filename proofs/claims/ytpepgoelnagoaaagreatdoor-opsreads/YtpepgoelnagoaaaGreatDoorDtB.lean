/-
  OPS: the document's Take 27.
-/
import Derived.Test.YtpepgoelnagoaaaGreatDoorMg22
import Derived.Test.YtpepgoelnagoaaaGreatDoorMg16
namespace Go.Proofs.YtpepgoelnagoaaaGreatDoor
open Go.RowKit Go.Shelf
set_option linter.unusedSimpArgs false
set_option linter.unusedVariables false
attribute [local go_sem] Oper.semAt_some
variable {T : Nat}

theorem exec_slice1s {ev : Operand → Value} {x : Operand} {T : TypeId} {a : ByteArray} {w : World} (hx : ev x = .string a) :
    (execOp ev { dst := none, op := .buildSlice 30 1 #[(0, x)], type := T, pos := "", after := #[], guard := none }).run Tryz.prog w = .ok (.value (.slice (some ⟨w.heap.size, 0, none⟩) 1 1)) (w.alloc (.cells #[.string a] 9)) := by
  unfold execOp
  simp [hx, go_sem]
theorem exec_slice2 {ev : Operand → Value} {x i j : Operand} {T : TypeId} {ao A : Option Addr} {n cap a b m c : Nat} {w : World} (hs : ∀ w', (Instr.slice 26 (.slice ao n cap) (some (.int .i64 a)) (some (.int .i64 b)) none).run Tryz.prog w' = .ok (.slice A m c) w') (hx : ev x = .slice ao n cap) (hi : ev i = .int .i64 a) (hj : ev j = .int .i64 b) :
    (execOp ev { dst := none, op := .slice 26 x (some i) (some j) none, type := T, pos := "", after := #[], guard := none }).run Tryz.prog w = .ok (.value (.slice A m c)) w := by
  unfold execOp
  simp [hx, hi, hj, Instr.sliceAt, run_underlying Tryz.underlying26, hs, go_sem]
theorem exec_ne9 {ev : Operand → Value} {x y : Operand} {T : TypeId} {a b : ByteArray} {r : Bool} {w : World} (hx : ev x = .string a) (hy : ev y = .string b) (hr : (a.toList != b.toList) = r) :
    (execOp ev { dst := none, op := .binOp .neq 9 x y 9, type := T, pos := "", after := #[], guard := none }).run Tryz.prog w = .ok (.value (.bool r)) w := by
  unfold execOp
  simp [hx, hy, go_sem]
  rw [← hr]
  simp [bne]
theorem Os.rs {w : World} {B pc : Nat} {pa : Option Addr} {L : List ByteArray} (h : Os w B (.slice pa L.length pc) L) : Rs w pa L := by
  obtain ⟨ao, c, e, hr, -, -, -⟩ := h.shape
  simp only [Value.slice.injEq, true_and] at e
  obtain ⟨rfl, rfl⟩ := e
  exact hr
section
variable {w w5 W W' wz : World} {D E N : Nat} {LB l : List Int} {v : Value} {k : Int} {s : ByteArray} {d n : Int} {t : ByteArray} {L : List ByteArray} {b b' : Bool} {q q' : List Int}
theorem dst_push {v2 : Value} {o : Obj} {y1 z2 : World} {x : ByteArray} (h : DSt T w5 D E N LB v k s d n t L b q y1) (hO : Os z2 (N + 1) v2 (L ++ [x])) (hg : (y1.alloc o).grownBy z2 v.ownBlock) : (z2.cell? ⟨N, 0, none⟩ = some v ∧ z2.frozen? ⟨N, 0, none⟩ = false) ∧ DSt T w5 D E N LB v2 k s d n t (L ++ [x]) b q (z2.setCell ⟨N, 0, none⟩ v2) := by
  have h0 := h.below ((Below.refl _ y1).alloc (Nat.le_refl _) o)
  have g := h.lts
  have hne : ∀ j, v.ownBlock = some j → N + 1 ≤ j := fun j hj => (World.ownsRow.lt h0.own j hj).1
  have hop := (hg.block N (Array.getElem?_eq_some_iff.1 h0.opc).1 (fun e => by have := hne N e.symm; omega)).trans h0.opc
  have hoe := (hg.block E (Array.getElem?_eq_some_iff.1 h0.okc).1 (fun e => by have := hne E e.symm; omega)).trans h0.okc
  have hdo := h0.doc.kept hg (fun k hk => by have := hne k hk; omega)
  have hon := h0.only.trans (Only.ofGrown hg) (fun j hj e => by have := hne j e; omega)
  obtain ⟨c, ho⟩ := Ki.set_one (i := 0) v2 hop
  refine ⟨⟨(blk6 hop).1.1, (blk6 hop).2.1⟩, ⟨hdo.kept (grown_set z2 N 0 v2) (fun k hk => by simp only [Option.some.injEq] at hk; omega), (ho.block E (Array.getElem?_eq_some_iff.1 hoe).1 (by omega)).trans hoe, c, hO.only ho (fun j hj hd => by have := (World.ownsRow.lt hO j hj).1; omega), hon.trans ho (fun j hj hd => by omega), g⟩⟩
theorem dst_place {at0 at1 : Nat} (h1 : l = LB.drop at0) (h2 : q = LB.drop at1) (ha : at0 ≤ LB.length) (hb : at1 ≤ LB.length) (hs : ∃ k, q = l.drop k) : at0 ≤ at1 := by
  have q1 := congrArg List.length h1
  have q2 := congrArg List.length h2
  obtain ⟨k, hk⟩ := hs
  have q3 := congrArg List.length hk
  simp only [List.length_drop] at q1 q2 q3
  omega
theorem dst_len {at0 at1 : Nat} (hb : at1 ≤ LB.length) (h : at0 ≤ at1) : ((LB.drop at0).take (at1 - at0)).length = at1 - at0 := by
  rw [List.length_take, List.length_drop]
  omega
theorem dst_err {at0 : Nat} (h : DSt T w5 D E N LB v k s d n t L b q W) (hl : l = LB.drop at0) (ha : at0 ≤ LB.length) (hz : wz = W.setCell ⟨D, 1, none⟩ (.int .i64 (at0 : Nat))) : Doc T wz D LB l ∧ Only (fun j => j = D ∨ j = E ∨ j = N) w5 wz := by
  have g := h.lts
  subst hz
  obtain ⟨h1, h2⟩ := Doc.back (World.grownBy.refl W (some D)) h.doc ha hl rfl
  exact ⟨h1, h.only.trans (only_grown h2) (fun j _ e => .inl e)⟩
theorem dst_fin {a' b' c' d' e' f' : Value} (h : Doc T W D LB q) (h0 : Only (fun j => j = D) w w5) (h5 : Only (fun j => j = D ∨ j = E ∨ j = N) w5 W) (g : D < w.heap.size ∧ w.heap.size < E ∧ E < N ∧ T ≤ D) :
    Doc T ((((((W.setCell ⟨w.heap.size, 0, none⟩ a').setCell ⟨w.heap.size, 1, none⟩ b').setCell ⟨w.heap.size, 2, none⟩ c').setCell ⟨w.heap.size, 3, none⟩ d').setCell ⟨w.heap.size, 4, none⟩ e').setCell ⟨w.heap.size, 5, none⟩ f') D LB q ∧
    Only (fun j => j = D) w ((((((W.setCell ⟨w.heap.size, 0, none⟩ a').setCell ⟨w.heap.size, 1, none⟩ b').setCell ⟨w.heap.size, 2, none⟩ c').setCell ⟨w.heap.size, 3, none⟩ d').setCell ⟨w.heap.size, 4, none⟩ e').setCell ⟨w.heap.size, 5, none⟩ f') := by
  refine ⟨h.kept (grown_only only6) (fun k hk => by simp only [Option.some.injEq] at hk; omega), (h0.trans h5 (fun j hj e => by omega)).trans only6 (fun j hj e => by omega)⟩
theorem dst_own {pa : Option Addr} {pc : Nat} {a' b' c' d' e' f' : Value} (h : DSt T w5 D E N LB (.slice pa L.length pc) k s d n t L b q W) (g : D < w.heap.size ∧ w.heap.size < E ∧ E < N ∧ T ≤ D) :
    Os ((((((W.setCell ⟨w.heap.size, 0, none⟩ a').setCell ⟨w.heap.size, 1, none⟩ b').setCell ⟨w.heap.size, 2, none⟩ c').setCell ⟨w.heap.size, 3, none⟩ d').setCell ⟨w.heap.size, 4, none⟩ e').setCell ⟨w.heap.size, 5, none⟩ f') w.heap.size (.slice pa L.length pc) L := by
  have ho := h.own
  exact row_lift (ho.only only6 (fun j hj hd => by have := (World.ownsRow.lt ho j hj).1; omega)) (by omega)
theorem dst_i64 {o : Od} {Q : List Int} (h8 : U8 l) (h : drd l = (o, true, Q)) : I64 o.n := by
  have := drd_i64 h8 (by rw [h])
  rw [h] at this
  exact this
end
theorem and15 (n : Nat) (h : n < 18446744073709551616) : wrap64 (bits .and .u64 (n : Int) 15) = (n : Int) % 16 := by
  have e : bits .and .u64 (n : Int) 15 = ((n % 16 : Nat) : Int) := by
    show IntKind.u64.wrap ((BitVec.ofInt 64 (n : Int) &&& BitVec.ofInt 64 15).toNat : Int) = _
    have h1 : (BitVec.ofInt 64 (n : Int)).toNat = n := by rw [BitVec.toNat_ofInt]; omega
    have h2 : (BitVec.ofInt 64 15).toNat = 15 := by decide
    rw [BitVec.toNat_and, h1, h2, show (15 : Nat) = 2 ^ 4 - 1 from rfl, Nat.and_two_pow_sub_one_eq_mod]
    simp [IntKind.wrap, IntKind.bits, IntKind.signed]
    omega
  rw [e]
  unfold wrap64
  omega
theorem doc_u8 {w : World} {D : Nat} {LB l : List Int} (h : Doc T w D LB l) : U8 l := by
  obtain ⟨bo, cap, at', -, -, -, -, -, -, hl, -, -, -, h8⟩ := h.cells
  rw [hl.out]
  exact u8_drop h8 _
theorem below_onl {D : Nat → Prop} {w w' : World} (h : Below w.heap.size w w') : Only D w w' := Ki.below_only h
theorem rnum_64 {q : List Int} (h8 : U8 q) : (rnum q).1 < 18446744073709551616 := by
  by_cases h : (rnum q).2.1 = 0
  · exact (rnum_inv h8 h).2
  · rcases hr : Plain.readN 0 0 q with _ | ⟨m, k⟩
    · rw [rnum_none hr]; simp
    · exact absurd (by rw [rnum_some hr]) h

set_option maxHeartbeats 16000000 in
set_option maxRecDepth 100000 in
theorem dtake_any (D : Nat) (LB l : List Int) (w : World) (hD : Doc T w D LB l) :
    Calls Tryz.prog 27 #[.pointer (some ⟨D, 0, none⟩)] w fun e w' => ∃ pa pc, e = .returned (.tuple #[odv pa (dtake l).1.p.length pc (dtake l).1, .int .i64 (dtake l).2.1]) ∧ Os w' w.heap.size (.slice pa (dtake l).1.p.length pc) (dtake l).1.p ∧ Doc T w' D LB (dtake l).2.2 ∧ Only (fun j => j = D) w w' := by
  have hTD := hD.le
  obtain ⟨bo, cap, at0, c0, c1, f1, hDs, hat, hz, HL, hlc, hr, hnil, h8B⟩ := hD.cells
  have h8 : U8 l := by rw [HL.out]; exact u8_drop h8B _
  have H8 := hide h8
  have hsub := drd_sub l
  obtain ⟨Z1, hZ1⟩ : ∃ r, r = rnum l := ⟨_, rfl⟩
  obtain ⟨Z2, hZ2⟩ : ∃ r, r = rnum Z1.2.2 := ⟨_, rfl⟩
  have s1 : U8 Z1.2.2 := by rw [hZ1]; exact sub_u8 h8 (rnum_sub l)
  have d64 : Z1.1 < 18446744073709551616 := by rw [hZ1]; exact rnum_64 h8
  have n64 : Z2.1 < 18446744073709551616 := by rw [hZ2]; exact rnum_64 s1
  obtain ⟨b0, hb0⟩ : ∃ r, r = (decide (Z1.2.1 = 0) && (decide (Z2.2.1 = 0) && (decide (Z1.1 < 8) && decide (Z2.1 ≤ 6)))) := ⟨_, rfl⟩
  have hh : dhd l = (Z1.1, Z2.1, b0, Z2.2.2) := by unfold dhd; rw [hb0, hZ2, hZ1]
  obtain ⟨P, hP⟩ : ∃ r, r = dkeys Z2.1 b0 Z2.2.2 := ⟨_, rfl⟩
  obtain ⟨dv, hdv⟩ : ∃ r, r = d16 Z1.1 := ⟨_, rfl⟩
  have hdr : drd l = (⟨P.1, Ki.ofD dv, (dtxt P.2.1 P.2.2).1, dv, (drd4 dv (dtxt P.2.1 P.2.2).2.1 (dtxt P.2.1 P.2.2).2.2).1.1, (drd4 dv (dtxt P.2.1 P.2.2).2.1 (dtxt P.2.1 P.2.2).2.2).1.2⟩, (drd4 dv (dtxt P.2.1 P.2.2).2.1 (dtxt P.2.1 P.2.2).2.2).2.1, (drd4 dv (dtxt P.2.1 P.2.2).2.1 (dtxt P.2.1 P.2.2).2.2).2.2) := by unfold drd; dsimp only; rw [hh]; dsimp only; rw [← hP, ← hdv]
  have hN6 : b0 = true → Z2.1 ≤ 6 := fun h => by rw [hb0] at h; simp at h; omega
  clear hh
  obtain ⟨w1, hw1⟩ : ∃ r, r = w.alloc (.cells (oc6 (.slice none 0 0) 0 ⟨#[]⟩ 0 0 ⟨#[]⟩) 34) := ⟨_, rfl⟩
  have b1 : Below w.heap.size w w1 := by rw [hw1]; exact (Below.refl _ w).alloc (Nat.le_refl _) _
  have m1 : w1.heap[w.heap.size]? = some (.cells (oc6 (.slice none 0 0) 0 ⟨#[]⟩ 0 0 ⟨#[]⟩) 34 (0, 0)) := by rw [hw1]; exact heap_alloc_new _ _
  have z1 : w1.heap.size = w.heap.size + 1 := by rw [hw1]; simp
  obtain ⟨w2, hw2⟩ : ∃ r, r = w1.alloc (.cells #[.bool true] 4) := ⟨_, rfl⟩
  have b2 : Below w1.heap.size w1 w2 := by rw [hw2]; exact (Below.refl _ w1).alloc (Nat.le_refl _) _
  have m2 : w2.heap[w1.heap.size]? = some (.cells #[.bool true] 4 (0, 0)) := by rw [hw2]; exact heap_alloc_new _ _
  have z2 : w2.heap.size = w.heap.size + 2 := by rw [hw2]; simp [z1]
  have hD2 : Doc T w2 D LB l := hD.kept (grown_of_below (row := none) (b1.trans (b2.mono (by omega)))) (by simp)
  have k3 := dnumber_any D LB l w2 hD2
  rw [← hZ1] at k3
  have k4 := fun W (h : Doc T W D LB Z1.2.2) => dnumber_any D LB Z1.2.2 W h
  rw [← hZ2] at k4
  obtain ⟨dn, er1, q1⟩ := Z1
  obtain ⟨n, er2, q2⟩ := Z2
  dsimp only at *
  have hdvd : dv = (dn : Int) % 16 := hdv
  have c1w := Ki.cell_stays c1 b1
  have HB := hide (And.intro hb0 (And.intro hP (And.intro hN6 hdvd)))
  have HDR := hide hdr
  have HSB0 := hide hsub
  have HW := hide (And.intro hw1 (And.intro hw2 (And.intro b1 (And.intro m1 (And.intro z1 (And.intro b2 (And.intro m2 (And.intro z2 hTD))))))))
  clear hZ1 hZ2 hb0 hP hdv hdvd hdr hsub hN6 hw1 hw2 b1 m1 z1 b2 m2 z2 hD2 c0 c1 f1 hr hnil h8B hz hlc s1 h8 hTD
  go_enter Tryz.func27, Tryz.ntmps27
  go_upto_region 1 with fail
  rw [← HW.out.1]
  go_upto_region 2 with fail
  go_upto_region 3 with fail
  rw [← HW.out.2.1]
  clear c1w
  go_upto_region 4 with (go_at_call 71; refine k3.mono ?_; rintro e w3 ⟨rfl, hD3, hg3⟩; have H3 := hide (And.intro hD3 hg3); clear hD3 hg3 k3)
  go_upto_region 5 with (go_at_call 71; refine (k4 w3 H3.out.1).mono ?_; rintro e w4 ⟨rfl, hD4, hg4⟩; have H4 := hide (And.intro hD4 hg4); clear hD4 hg4 k4)
  go_upto_region 6 with fail
  rw [and15 dn d64, show (dn : Int) % 16 = dv from HB.out.2.2.2.symm]
  obtain ⟨w5, hw5⟩ : ∃ r, r = w4.alloc (.cells (oc6 (.slice none 0 0) 0 ⟨#[]⟩ dv 0 ⟨#[]⟩) 34) := ⟨_, rfl⟩
  rw [← hw5]
  obtain ⟨Eb, hEb⟩ : ∃ r, r = w1.heap.size := ⟨_, rfl⟩
  obtain ⟨Nb, hNb⟩ : ∃ r, r = w4.heap.size := ⟨_, rfl⟩
  rw [← hEb, ← hNb]
  have ALL : DSt T w5 D Eb Nb LB (.slice none 0 0) 0 ⟨#[]⟩ dv 0 ⟨#[]⟩ [] true q2 w5 ∧ (w5.heap[w.heap.size]? = some (.cells (oc6 (.slice none 0 0) 0 ⟨#[]⟩ 0 0 ⟨#[]⟩) 34 (0, 0)) ∧ (D < w.heap.size ∧ w.heap.size < Eb ∧ Eb < Nb ∧ T ≤ D) ∧ w.heap.size < Nb ∧ Nb ≤ w5.heap.size) ∧ Only (fun j => j = D) w w5 := by
    obtain ⟨-, -, b1, m1, z1, b2, m2, z2, hTD⟩ := HW.out
    have o3 := only_grown H3.out.2
    have o4 := only_grown H4.out.2
    have s3 := o3.size
    have s4 := o4.size
    have b5 : Below w4.heap.size w4 w5 := by rw [hw5]; exact (Below.refl _ w4).alloc (Nat.le_refl _) _
    have m5 : w5.heap[w4.heap.size]? = some (.cells (oc6 (.slice none 0 0) 0 ⟨#[]⟩ dv 0 ⟨#[]⟩) 34 (0, 0)) := by rw [hw5]; exact heap_alloc_new _ _
    have s5 : w5.heap.size = w4.heap.size + 1 := by rw [hw5]; simp
    have lt : D < w.heap.size ∧ w.heap.size < Eb ∧ Eb < Nb ∧ T ≤ D := by omega
    have e2 : w5.heap[Eb]? = some (.cells #[.bool true] 4 (0, 0)) := by
      rw [hEb]
      exact (b5.block _ (by omega)).trans ((o4.block _ (by omega) (by omega)).trans ((o3.block _ (by omega) (by omega)).trans m2))
    refine ⟨⟨H4.out.1.kept (grown_of_below (row := none) b5) (by simp), e2, by rw [hNb]; exact m5, Os.nil _ _, Only.refl _ _, by omega⟩, ⟨(b5.block _ (by omega)).trans ((o4.block _ (by omega) (by omega)).trans ((o3.block _ (by omega) (by omega)).trans ((b2.block _ (by omega)).trans m1))), lt, by omega, by omega⟩, ?_⟩
    exact ((((below_onl b1).trans (below_onl b2) (fun j hj h => h)).trans o3 (fun j hj h => h)).trans o4 (fun j hj h => h)).trans (below_onl b5) (fun j hj h => h)
  have ST5 := hide ALL.1
  have HN := hide ALL.2.1
  have H05 := hide ALL.2.2
  clear ALL hw5 hEb hNb H3 H4 HW
  obtain ⟨⟨okc, okf⟩, -, -⟩ := ST5.out.cells
  go_cut [] (fun wc => wc = w5.setCell ⟨Eb, 0, none⟩ (.bool b0))
  case first =>
    by_cases c1 : er1 = 0
    · subst c1
      by_cases c2 : er2 = 0
      · subst c2
        by_cases c3 : dn < 8
        · have y3 : decide ((dn : Int) < 8) = true := by simp; omega
          by_cases c4 : n ≤ 6
          · have y4 : decide ((n : Int) ≤ 6) = true := by simp; omega
            have hb : Hid (b0 = true) := hide (by rw [HB.out.1]; simp [c3, c4])
            clear c3 c4
            go_wp2
            go_meet
            rw [hb.out]
          · have y4 : decide ((n : Int) ≤ 6) = false := by simp; omega
            have hb : Hid (b0 = false) := hide (by rw [HB.out.1]; simp [c4])
            clear c3 c4
            go_wp2
            go_meet
            rw [hb.out]
        · have y3 : decide ((dn : Int) < 8) = false := by simp; omega
          have hb : Hid (b0 = false) := hide (by rw [HB.out.1]; simp [c3])
          clear c3
          go_wp2
          go_meet
          rw [hb.out]
      · have y2 : (er2 == 0) = false := by simpa using c2
        have hb : Hid (b0 = false) := hide (by rw [HB.out.1]; simp [c2])
        go_wp2
        go_meet
        rw [hb.out]
    · have y1 : (er1 == 0) = false := by simpa using c1
      have hb : Hid (b0 = false) := hide (by rw [HB.out.1]; simp [c1])
      go_wp2
      go_meet
      rw [hb.out]
  case rest =>
    have ST6 : Hid (DSt T w5 D Eb Nb LB (.slice none 0 0) 0 ⟨#[]⟩ dv 0 ⟨#[]⟩ [] b0 q2 wc) := hide (by rw [hcut]; exact ST5.out.setE b0)
    clear hcut okc okf ST5
    go_upto_region 7 with fail
    go_wp2
    go_loopw [11] (fun v11 wr => ∃ (j : Nat) (L : List ByteArray) (b : Bool) (q : List Int) (v : Value), v11 = .int .u64 (j : Nat) ∧ Hid (DkL T w5 D Eb Nb n dv LB P j L b q v wr)) (fun v11 _ => n - (intOf v11).toNat)
    case atStart => exact ⟨0, [], b0, q2, .slice none 0 0, rfl, hide ⟨Nat.zero_le _, rfl, HB.out.2.2.1, by simp, by rw [HB.out.2.1]; rfl, ST6.out⟩⟩
    case round =>
      obtain ⟨j, L, b, q, v, rfl, HKL⟩ := hrel
      have hle := HKL.out.le
      obtain ⟨⟨okc, okf⟩, ⟨x0, x1, x2, x3, x4, x5⟩, f0, f1, f2, f3, f4, f5⟩ := HKL.out.st.cells
      go_upto_region 8 with fail
      go_cut [51] (fun v51 wc => v51 = .bool (decide (j < n) && b) ∧ wr = wc)
      case first =>
        by_cases hlt : j < n
        · have y1 : decide ((j : Int) < (n : Int)) = true := by simp; omega
          cases b with
          | true => go_wp2; go_meet; exact ⟨by simp [hlt], rfl⟩
          | false => go_wp2; go_meet; exact ⟨by simp, rfl⟩
        · have y1 : decide ((j : Int) < (n : Int)) = false := by simp; omega
          go_wp2
          go_meet
          exact ⟨by simp [hlt], rfl⟩
      case rest =>
        obtain ⟨rfl, rfl⟩ := hcut
        by_cases hx : (decide (j < n) && b) = true
        · have hjn : j < n := by simp at hx; exact hx.1
          have hbt : b = true := by simp at hx; exact hx.2
          subst hbt
          rw [hx]
          clear hx
          go_upto_region 10 with fail

          refine wp_region_held_drew (S := fun _ => True) (by kernel_rfl) trivial (fun hHeld => ?_)
          have st0 : DSt T w5 D Eb Nb LB v 0 ⟨#[]⟩ dv 0 ⟨#[]⟩ L true q wr.drew := HKL.out.st.below (Below.refl _ _).drew
          obtain ⟨u0, hu0⟩ : ∃ r, r = wr.drew := ⟨_, rfl⟩
          rw [← hu0] at st0 ⊢
          clear hu0
          obtain ⟨⟨okc, okf⟩, ⟨x0, x1, x2, x3, x4, x5⟩, f0, f1, f2, f3, f4, f5⟩ := st0.cells
          have kt := dtext_any D Eb true LB q u0 st0.doc st0.okc (by have := st0.lts; omega) (by have := st0.lts; omega)
          have ST0 := hide st0
          clear st0
          refine take_op (i := 0) (d := 54) (OP := Op.fieldAddr 34 (Operand.tmp 10) 0) (T := 0) (v := ?vogw1) rfl rfl rfl rfl (by kernel_rfl) (by kernel_rfl) (by kernel_rfl) (fun _ _ _ h => h) (by rfl) ?hogw1 trivial ?rogw1
          case hogw1 => (intro w' hSw; (try dsimp only at hSw); go_simp <;> with_reducible rfl)
          try simp only [Act.put, List.setIfInBounds_toArray, List.set_cons_zero, List.set_cons_succ]
          refine take_op (i := 2) (d := 56) (OP := Op.move (Operand.tmp 0)) (T := 54) (v := ?vogw2) rfl rfl rfl rfl (by kernel_rfl) (by kernel_rfl) (by kernel_rfl) (fun _ _ _ h => h) (by rfl) ?hogw2 trivial ?rogw2
          case hogw2 => (intro w' hSw; (try dsimp only at hSw); go_simp <;> with_reducible rfl)
          try simp only [Act.put, List.setIfInBounds_toArray, List.set_cons_zero, List.set_cons_succ]
          refine read_call_op (i := 1) (di := 55) (OPi := Op.load 30 (Operand.tmp 54)) (Ti := 30) (j := 3) (dj := 57) (OPj := Op.call { callee := Callee.value (Operand.func 72), args := #[Operand.tmp 56, Operand.tmp 5], argTypes := #[54, 106] }) (Tj := 9) (u := v) (f := 72) (args := #[.pointer (some ⟨D, 0, none⟩), .pointer (some ⟨Eb, 0, none⟩)]) (w' := u0) rfl rfl rfl rfl rfl rfl rfl rfl (by kernel_rfl) (by rfl) (by rfl) (by go_simp <;> with_reducible rfl) (by go_simp) trivial ?_ ?_
          · try simp only [Act.put, List.setIfInBounds_toArray, List.set_cons_zero, List.set_cons_succ]
            refine call_op (i := 3) (d := 57) (OP := Op.call { callee := Callee.value (Operand.func 72), args := #[Operand.tmp 56, Operand.tmp 5], argTypes := #[54, 106] }) (T := 9) (f := 72) (args := #[.pointer (some ⟨D, 0, none⟩), .pointer (some ⟨Eb, 0, none⟩)]) rfl rfl rfl rfl (by kernel_rfl) (by rfl) (by go_simp) ?_
            refine kt.mono ?_
            rintro e y1 ⟨rfl, hd1, he1, ho1⟩
            have st1 := ST0.out.call hd1 he1 ho1
            clear hd1 he1 ho1
            obtain ⟨⟨okc1, okf1⟩, ⟨y0, -, -, -, -, -⟩, g0, -, -, -, -, -⟩ := st1.cells
            have ST1 := hide st1
            clear st1
            refine ⟨_, rfl, trivial, ?_⟩
            try simp only [Act.put, List.setIfInBounds_toArray, List.set_cons_zero, List.set_cons_succ]
            refine turn_op (i := 4) (d := 58) (OP := Op.buildSlice 30 1 #[(0, Operand.tmp 57)]) (T := 30) (v := .slice (some ⟨y1.heap.size, 0, none⟩) 1 1) (w' := y1.alloc (.cells #[.string (dtxt true q).1] 9)) rfl rfl rfl rfl (by kernel_rfl) (by rfl) (exec_slice1s rfl) trivial ?_
            try simp only [Act.put, List.setIfInBounds_toArray, List.set_cons_zero, List.set_cons_succ]
            obtain ⟨v2, z2, hr2, hO2, hg2, hb2⟩ := push_str (ST1.out.own.below ((Below.refl _ y1).alloc (Nat.le_refl _) (.cells #[.string (dtxt true q).1] 9))) (heap_alloc_new y1 (.cells #[.string (dtxt true q).1] 9)) (by have := HKL.out.lb; omega) (by have := (Array.getElem?_eq_some_iff.1 ST1.out.opc).1; simp; omega)
            obtain ⟨a2, c2, hv2, -, -, -, -⟩ := hO2.shape
            subst hv2
            have st2 := dst_push ST1.out hO2 hg2
            clear hO2 hg2 hb2
            refine turn_op (i := 5) (d := 59) (OP := Op.call { callee := Callee.builtin Builtin.append, args := #[Operand.tmp 55, Operand.tmp 58], argTypes := #[30, 30] }) (T := 30) (v := .slice a2 (L ++ [(dtxt true q).1]).length c2) (w' := z2) rfl rfl rfl rfl (by kernel_rfl) (by rfl) (exec_append rfl rfl hr2) trivial ?_
            try simp only [Act.put, List.setIfInBounds_toArray, List.set_cons_zero, List.set_cons_succ]
            clear hr2
            obtain ⟨⟨z0, zf0⟩, st2⟩ := st2
            have ST2 := hide st2
            clear st2
            refine take_op (i := 6) (d := 60) (OP := Op.fieldAddr 34 (Operand.tmp 10) 0) (T := 0) (v := ?vogrc3) rfl rfl rfl rfl (by kernel_rfl) (by kernel_rfl) (by kernel_rfl) (fun _ _ _ h => h) (by rfl) ?hogrc3 trivial ?rogrc3
            case hogrc3 => (intro w' hSw; (try dsimp only at hSw); go_simp <;> with_reducible rfl)
            try simp only [Act.put, List.setIfInBounds_toArray, List.set_cons_zero, List.set_cons_succ]
            refine skip_op (i := 7) (OP := Op.store 30 (Operand.tmp 60) (Operand.tmp 59)) (T := 0) (w' := z2.setCell ⟨Nb, 0, none⟩ (.slice a2 (L ++ [(dtxt true q).1]).length c2)) rfl rfl rfl rfl (by kernel_rfl) (by rfl) (by go_simp <;> with_reducible rfl) ⟨trivial, ?_⟩
            refine wpAnyH_done (by kernel_rfl) ?_ _
            have HKN := hide (HKL.out.next hjn ST2.out)
            clear ST2 z0 zf0
            obtain ⟨w7, hw7⟩ : ∃ r, r = z2.setCell ⟨Nb, 0, none⟩ (.slice a2 (L ++ [(dtxt true q).1]).length c2) := ⟨_, rfl⟩
            rw [← hw7] at HKN ⊢
            clear hw7
            go_wp2
            go_roundw
            case rel => exact ⟨j + 1, _, _, _, _, by go_num, HKN⟩
            case measure => simp [intOf]; omega
          · refine kt.mono ?_
            rintro e y1 ⟨rfl, hd1, he1, ho1⟩
            have st1 := ST0.out.call hd1 he1 ho1
            clear hd1 he1 ho1
            obtain ⟨⟨okc1, okf1⟩, ⟨y0, -, -, -, -, -⟩, g0, -, -, -, -, -⟩ := st1.cells
            have ST1 := hide st1
            clear st1
            refine ⟨_, rfl, trivial, ?_⟩
            try simp only [Act.put, List.setIfInBounds_toArray, List.set_cons_zero, List.set_cons_succ]
            refine two_op (i := 1) (di := 55) (OPi := Op.load 30 (Operand.tmp 54)) (Ti := 30) (j := 4) (dj := 58) (OPj := Op.buildSlice 30 1 #[(0, Operand.tmp 57)]) (Tj := 30) (v := v) (u := .slice (some ⟨y1.heap.size, 0, none⟩) 1 1) (w' := y1.alloc (.cells #[.string (dtxt true q).1] 9)) rfl rfl rfl rfl rfl rfl rfl rfl (by kernel_rfl) (by rfl) (by rfl) (by go_simp <;> with_reducible rfl) (exec_slice1s rfl) trivial trivial ?_ ?_
            · try simp only [Act.put, List.setIfInBounds_toArray, List.set_cons_zero, List.set_cons_succ]
              refine turn_op (i := 4) (d := 58) (OP := Op.buildSlice 30 1 #[(0, Operand.tmp 57)]) (T := 30) (v := .slice (some ⟨y1.heap.size, 0, none⟩) 1 1) (w' := y1.alloc (.cells #[.string (dtxt true q).1] 9)) rfl rfl rfl rfl (by kernel_rfl) (by rfl) (exec_slice1s rfl) trivial ?_
              try simp only [Act.put, List.setIfInBounds_toArray, List.set_cons_zero, List.set_cons_succ]
              obtain ⟨v2, z2, hr2, hO2, hg2, hb2⟩ := push_str (ST1.out.own.below ((Below.refl _ y1).alloc (Nat.le_refl _) (.cells #[.string (dtxt true q).1] 9))) (heap_alloc_new y1 (.cells #[.string (dtxt true q).1] 9)) (by have := HKL.out.lb; omega) (by have := (Array.getElem?_eq_some_iff.1 ST1.out.opc).1; simp; omega)
              obtain ⟨a2, c2, hv2, -, -, -, -⟩ := hO2.shape
              subst hv2
              have st2 := dst_push ST1.out hO2 hg2
              clear hO2 hg2 hb2
              refine turn_op (i := 5) (d := 59) (OP := Op.call { callee := Callee.builtin Builtin.append, args := #[Operand.tmp 55, Operand.tmp 58], argTypes := #[30, 30] }) (T := 30) (v := .slice a2 (L ++ [(dtxt true q).1]).length c2) (w' := z2) rfl rfl rfl rfl (by kernel_rfl) (by rfl) (exec_append rfl rfl hr2) trivial ?_
              try simp only [Act.put, List.setIfInBounds_toArray, List.set_cons_zero, List.set_cons_succ]
              clear hr2
              obtain ⟨⟨z0, zf0⟩, st2⟩ := st2
              have ST2 := hide st2
              clear st2
              refine take_op (i := 6) (d := 60) (OP := Op.fieldAddr 34 (Operand.tmp 10) 0) (T := 0) (v := ?vogra4) rfl rfl rfl rfl (by kernel_rfl) (by kernel_rfl) (by kernel_rfl) (fun _ _ _ h => h) (by rfl) ?hogra4 trivial ?rogra4
              case hogra4 => (intro w' hSw; (try dsimp only at hSw); go_simp <;> with_reducible rfl)
              try simp only [Act.put, List.setIfInBounds_toArray, List.set_cons_zero, List.set_cons_succ]
              refine skip_op (i := 7) (OP := Op.store 30 (Operand.tmp 60) (Operand.tmp 59)) (T := 0) (w' := z2.setCell ⟨Nb, 0, none⟩ (.slice a2 (L ++ [(dtxt true q).1]).length c2)) rfl rfl rfl rfl (by kernel_rfl) (by rfl) (by go_simp <;> with_reducible rfl) ⟨trivial, ?_⟩
              refine wpAnyH_done (by kernel_rfl) ?_ _
              have HKN := hide (HKL.out.next hjn ST2.out)
              clear ST2 z0 zf0
              obtain ⟨w7, hw7⟩ : ∃ r, r = z2.setCell ⟨Nb, 0, none⟩ (.slice a2 (L ++ [(dtxt true q).1]).length c2) := ⟨_, rfl⟩
              rw [← hw7] at HKN ⊢
              clear hw7
              go_wp2
              go_roundw
              case rel => exact ⟨j + 1, _, _, _, _, by go_num, HKN⟩
              case measure => simp [intOf]; omega
            · try simp only [Act.put, List.setIfInBounds_toArray, List.set_cons_zero, List.set_cons_succ]
              have yn : (y1.alloc (.cells #[.string (dtxt true q).1] 9)).cell? ⟨Nb, 0, none⟩ = some v := Ki.cell_stays y0 ((Below.refl _ y1).alloc (Nat.le_refl _) _)
              refine alone_op (i := 1) (d := 55) (OP := Op.load 30 (Operand.tmp 54)) (T := 30) (v := v) rfl rfl rfl rfl (by kernel_rfl) (by rfl) (by go_simp <;> with_reducible rfl) trivial ?_
              try simp only [Act.put, List.setIfInBounds_toArray, List.set_cons_zero, List.set_cons_succ]
              obtain ⟨v2, z2, hr2, hO2, hg2, hb2⟩ := push_str (ST1.out.own.below ((Below.refl _ y1).alloc (Nat.le_refl _) (.cells #[.string (dtxt true q).1] 9))) (heap_alloc_new y1 (.cells #[.string (dtxt true q).1] 9)) (by have := HKL.out.lb; omega) (by have := (Array.getElem?_eq_some_iff.1 ST1.out.opc).1; simp; omega)
              obtain ⟨a2, c2, hv2, -, -, -, -⟩ := hO2.shape
              subst hv2
              have st2 := dst_push ST1.out hO2 hg2
              clear hO2 hg2 hb2
              refine turn_op (i := 5) (d := 59) (OP := Op.call { callee := Callee.builtin Builtin.append, args := #[Operand.tmp 55, Operand.tmp 58], argTypes := #[30, 30] }) (T := 30) (v := .slice a2 (L ++ [(dtxt true q).1]).length c2) (w' := z2) rfl rfl rfl rfl (by kernel_rfl) (by rfl) (exec_append rfl rfl hr2) trivial ?_
              try simp only [Act.put, List.setIfInBounds_toArray, List.set_cons_zero, List.set_cons_succ]
              clear hr2
              obtain ⟨⟨z0, zf0⟩, st2⟩ := st2
              have ST2 := hide st2
              clear st2
              refine take_op (i := 6) (d := 60) (OP := Op.fieldAddr 34 (Operand.tmp 10) 0) (T := 0) (v := ?vogrb5) rfl rfl rfl rfl (by kernel_rfl) (by kernel_rfl) (by kernel_rfl) (fun _ _ _ h => h) (by rfl) ?hogrb5 trivial ?rogrb5
              case hogrb5 => (intro w' hSw; (try dsimp only at hSw); go_simp <;> with_reducible rfl)
              try simp only [Act.put, List.setIfInBounds_toArray, List.set_cons_zero, List.set_cons_succ]
              refine skip_op (i := 7) (OP := Op.store 30 (Operand.tmp 60) (Operand.tmp 59)) (T := 0) (w' := z2.setCell ⟨Nb, 0, none⟩ (.slice a2 (L ++ [(dtxt true q).1]).length c2)) rfl rfl rfl rfl (by kernel_rfl) (by rfl) (by go_simp <;> with_reducible rfl) ⟨trivial, ?_⟩
              refine wpAnyH_done (by kernel_rfl) ?_ _
              have HKN := hide (HKL.out.next hjn ST2.out)
              clear ST2 z0 zf0
              obtain ⟨w7, hw7⟩ : ∃ r, r = z2.setCell ⟨Nb, 0, none⟩ (.slice a2 (L ++ [(dtxt true q).1]).length c2) := ⟨_, rfl⟩
              rw [← hw7] at HKN ⊢
              clear hw7
              go_wp2
              go_roundw
              case rel => exact ⟨j + 1, _, _, _, _, by go_num, HKN⟩
              case measure => simp [intOf]; omega
        · have hdone : n ≤ j ∨ b = false := by
            by_cases hlt : j < n
            · right; cases b
              · rfl
              · exact absurd (by simp [hlt]) hx
            · left; omega
          have hx0 : (decide (j < n) && b) = false := by cases h : (decide (j < n) && b); rfl; exact absurd h hx
          rw [hx0]
          clear hx hx0
          have hPd := HKL.out.done hdone
          have HLB := hide HKL.out.lb
          have st := HKL.out.st
          obtain ⟨pa, pc, hv, -, -, -, -⟩ := st.own.shape
          subst hv
          rw [hPd] at HDR
          dsimp only at HDR
          clear hPd hdone HKL HB hle
          have ST7 := hide st
          clear st
          go_upto_region 12 with (go_at_call 52; refine (Ki.refOf_any dv _).mono ?_; rintro e wy ⟨rfl, hy⟩; have hy := hy.symm; subst hy)
          obtain ⟨w7, hw7⟩ : ∃ r, r = wr.setCell ⟨Nb, 1, none⟩ (.int .i64 (Ki.ofD dv)) := ⟨_, rfl⟩
          rw [← hw7]
          have s7 := ST7.out.set 1 (.int .i64 (Ki.ofD dv)) (.slice pa L.length pc) (Ki.ofD dv) ⟨#[]⟩ dv 0 ⟨#[]⟩ L ST7.out.own rfl
          rw [← hw7] at s7
          have kt := dtext_any D Eb b LB q w7 s7.doc s7.okc (by have := s7.lts; omega) (by have := s7.lts; omega)
          obtain ⟨C, hC⟩ : ∃ r, r = dtxt b q := ⟨_, rfl⟩
          rw [← hC] at kt HDR
          clear hC hw7 ST7
          obtain ⟨KS, bK, qK⟩ := C
          dsimp only at kt HDR
          have S7 := hide s7
          clear s7
          clear okc okf x0 x1 x2 x3 x4 x5 f0 f1 f2 f3 f4 f5
          obtain ⟨⟨okc, okf⟩, ⟨x0, x1, x2, x3, x4, x5⟩, f0, f1, f2, f3, f4, f5⟩ := S7.out.cells
          go_upto_region 13 with (go_at_call 72; refine kt.mono ?_; rintro e w8 ⟨rfl, hd8, he8, ho8⟩; have s8 := S7.out.call hd8 he8 ho8; clear hd8 he8 ho8 kt; clear okc okf x0 x1 x2 x3 x4 x5 f0 f1 f2 f3 f4 f5; obtain ⟨⟨okc, okf⟩, ⟨x0, x1, x2, x3, x4, x5⟩, f0, f1, f2, f3, f4, f5⟩ := s8.cells; have S8 := hide s8; clear s8)
          obtain ⟨w9, hw9⟩ : ∃ r, r = w8.setCell ⟨Nb, 2, none⟩ (.string KS) := ⟨_, rfl⟩
          rw [← hw9]
          have s9 := S8.out.set 2 (.string KS) (.slice pa L.length pc) (Ki.ofD dv) KS dv 0 ⟨#[]⟩ L S8.out.own rfl
          rw [← hw9] at s9
          clear okc okf x0 x1 x2 x3 x4 x5 f0 f1 f2 f3 f4 f5
          obtain ⟨⟨okc, okf⟩, ⟨x0, x1, x2, x3, x4, x5⟩, f0, f1, f2, f3, f4, f5⟩ := s9.cells
          have S9 := hide s9
          clear s9 hw9 S8 S7
          by_cases h1 : dv = 1
          · subst h1
            have kS := dsigned_any D LB qK w9 S9.out.doc (rnum_64 (doc_u8 S9.out.doc))
            obtain ⟨M, hM⟩ : ∃ r, r = rnum qK := ⟨_, rfl⟩
            have h4 : drd4 1 bK qK = ((unfoldN M.1, ⟨#[]⟩), bK && decide (M.2.1 = 0), M.2.2) := by unfold drd4; rw [if_pos rfl, hM]
            rw [h4] at HDR
            rw [← hM] at kS
            clear h4 hM
            obtain ⟨mn, me, mq⟩ := M
            dsimp only at kS HDR
            generalize unfoldN mn = NN at kS HDR
            go_upto_region 17 with (go_at_call 73; refine kS.mono ?_; rintro e w10 ⟨rfl, hd10, hg10⟩; have s10 := S9.out.num hd10 hg10; clear hd10 hg10 kS; clear okc okf x0 x1 x2 x3 x4 x5 f0 f1 f2 f3 f4 f5; obtain ⟨⟨okc, okf⟩, ⟨x0, x1, x2, x3, x4, x5⟩, f0, f1, f2, f3, f4, f5⟩ := s10.cells; have S10 := hide s10; clear s10)
            go_cut [] (fun wc => wc = w10.setCell ⟨Eb, 0, none⟩ (.bool (bK && decide (me = 0))))
            case first =>
              cases bK with
              | false => go_wp2; go_meet; rfl
              | true =>
                by_cases hme : me = 0
                · subst hme
                  go_wp2
                  go_meet
                  rfl
                · have hme1 : (me == 0) = false := by simpa using hme
                  have hme2 : Hid ((true && decide (me = 0)) = false) := hide (by simpa using hme)
                  go_wp2
                  go_meet
                  rw [hme2.out]
            case rest =>
              have s11 := S10.out.setE (bK && decide (me = 0))
              rw [← hcut] at s11
              clear hcut S10 S9
              clear okc okf x0 x1 x2 x3 x4 x5 f0 f1 f2 f3 f4 f5
              obtain ⟨⟨okc, okf⟩, ⟨x0, x1, x2, x3, x4, x5⟩, f0, f1, f2, f3, f4, f5⟩ := s11.cells
              have S11 := hide s11
              clear s11
              obtain ⟨w11, hw11⟩ : ∃ r, r = wc := ⟨_, rfl⟩
              rw [← hw11] at S11 okc okf x0 x1 x2 x3 x4 x5 f0 f1 f2 f3 f4 f5 ⊢
              clear hw11
              go_upto_region 20 with fail
              obtain ⟨w12, hw12⟩ : ∃ r, r = w11.setCell ⟨Nb, 4, none⟩ (.int .i64 NN) := ⟨_, rfl⟩
              rw [← hw12]
              have sx := S11.out.set 4 (.int .i64 NN) (.slice pa L.length pc) (Ki.ofD 1) KS 1 NN ⟨#[]⟩ L S11.out.own rfl
              rw [← hw12] at sx
              clear hw12 S11
              clear okc okf x0 x1 x2 x3 x4 x5 f0 f1 f2 f3 f4 f5
              have SX := hide sx
              clear sx
              have HSB : Hid (∃ k, mq = l.drop k) := hide (by have := HSB0.out; rw [HDR.out] at this; exact this)

              have hB : ((bK && decide (me = 0))) = false ∨ ((bK && decide (me = 0))) = true := by cases ((bK && decide (me = 0))); exact .inl rfl; exact .inr rfl
              obtain ⟨BB, hBB⟩ : ∃ r, r = ((bK && decide (me = 0))) := ⟨_, rfl⟩
              rw [← hBB] at SX HDR hB
              clear hBB
              rcases hB with rfl | rfl
              · have HXX : Hid (dtake l = (odZ, 4, l)) := hide (by unfold dtake; rw [HDR.out]; exact if_neg (fun h => by cases h.1))
                refine wp_region_held_drew (S := fun w' => w'.cell? ⟨Eb, 0, none⟩ = some (.bool false)) (by kernel_rfl) (SX.out.below (Below.refl _ _).drew).cells.1.1 (fun hHeld => ?_)
                have sx := SX.out.below (Below.refl _ _).drew
                obtain ⟨Wd, hWd⟩ : ∃ r, r = w12.drew := ⟨_, rfl⟩
                rw [← hWd] at sx hHeld ⊢
                clear hWd SX
                have SX := hide sx
                clear sx
                obtain ⟨bo1, cap1, at1, d0, d1, df1, -⟩ := SX.out.doc.cells
                refine take_op (i := 0) (d := 89) (OP := Op.load 4 (Operand.tmp 5)) (T := 4) (v := ?vogpf6) rfl rfl rfl rfl (by kernel_rfl) (by kernel_rfl) (by kernel_rfl) (fun _ _ _ h => h) (by rfl) ?hogpf6 hHeld ?rogpf6
                case hogpf6 => (intro w' hSw; (try dsimp only at hSw); go_simp <;> with_reducible rfl)
                try simp only [Act.put, List.setIfInBounds_toArray, List.set_cons_zero, List.set_cons_succ]
                refine take_op (i := 1) (d := 90) (OP := Op.unOp UnOp.not 4 (Operand.tmp 89)) (T := 4) (v := ?vogpf7) rfl rfl rfl rfl (by kernel_rfl) (by kernel_rfl) (by kernel_rfl) (fun _ _ _ h => h) (by rfl) ?hogpf7 hHeld ?rogpf7
                case hogpf7 => (intro w' hSw; (try dsimp only at hSw); go_simp <;> with_reducible rfl)
                try simp only [Act.put, List.setIfInBounds_toArray, List.set_cons_zero, List.set_cons_succ]
                refine take_op (i := 2) (d := 91) (OP := Op.move (Operand.tmp 90)) (T := 4) (v := ?vogpf8) rfl rfl rfl rfl (by kernel_rfl) (by kernel_rfl) (by kernel_rfl) (fun _ _ _ h => h) (by rfl) ?hogpf8 hHeld ?rogpf8
                case hogpf8 => (intro w' hSw; (try dsimp only at hSw); go_simp <;> with_reducible rfl)
                try simp only [Act.put, List.setIfInBounds_toArray, List.set_cons_zero, List.set_cons_succ]
                refine pass_op (i := 3) (d := 92) rfl rfl (by kernel_rfl) (by kernel_rfl) (by kernel_rfl) (fun _ _ _ h => h) (by rfl) hHeld ?_
                try simp only [Act.put, List.setIfInBounds_toArray, List.set_cons_zero, List.set_cons_succ]
                refine pass_op (i := 4) (d := 93) rfl rfl (by kernel_rfl) (by kernel_rfl) (by kernel_rfl) (fun _ _ _ h => h) (by rfl) hHeld ?_
                try simp only [Act.put, List.setIfInBounds_toArray, List.set_cons_zero, List.set_cons_succ]
                refine pass_op (i := 5) (d := 94) rfl rfl (by kernel_rfl) (by kernel_rfl) (by kernel_rfl) (fun _ _ _ h => h) (by rfl) hHeld ?_
                try simp only [Act.put, List.setIfInBounds_toArray, List.set_cons_zero, List.set_cons_succ]
                refine take_op (i := 6) (d := 95) (OP := Op.pick (Operand.tmp 91) (Operand.const (Value.bool true)) (Operand.tmp 94)) (T := 4) (v := ?vogpf9) rfl rfl rfl rfl (by kernel_rfl) (by kernel_rfl) (by kernel_rfl) (fun _ _ _ h => h) (by rfl) ?hogpf9 hHeld ?rogpf9
                case hogpf9 => (intro w' hSw; (try dsimp only at hSw); go_simp <;> with_reducible rfl)
                try simp only [Act.put, List.setIfInBounds_toArray, List.set_cons_zero, List.set_cons_succ]
                refine take_op (i := 7) (d := 96) (OP := Op.move (Operand.tmp 95)) (T := 4) (v := ?vogpf10) rfl rfl rfl rfl (by kernel_rfl) (by kernel_rfl) (by kernel_rfl) (fun _ _ _ h => h) (by rfl) ?hogpf10 hHeld ?rogpf10
                case hogpf10 => (intro w' hSw; (try dsimp only at hSw); go_simp <;> with_reducible rfl)
                try simp only [Act.put, List.setIfInBounds_toArray, List.set_cons_zero, List.set_cons_succ]
                refine pass_op (i := 8) (d := 97) rfl rfl (by kernel_rfl) (by kernel_rfl) (by kernel_rfl) (fun _ _ _ h => h) (by rfl) hHeld ?_
                try simp only [Act.put, List.setIfInBounds_toArray, List.set_cons_zero, List.set_cons_succ]
                refine pass_op (i := 9) (d := 98) rfl rfl (by kernel_rfl) (by kernel_rfl) (by kernel_rfl) (fun _ _ _ h => h) (by rfl) hHeld ?_
                try simp only [Act.put, List.setIfInBounds_toArray, List.set_cons_zero, List.set_cons_succ]
                refine pass_op (i := 10) (d := 99) rfl rfl (by kernel_rfl) (by kernel_rfl) (by kernel_rfl) (fun _ _ _ h => h) (by rfl) hHeld ?_
                try simp only [Act.put, List.setIfInBounds_toArray, List.set_cons_zero, List.set_cons_succ]
                refine pass_op (i := 11) (d := 100) rfl rfl (by kernel_rfl) (by kernel_rfl) (by kernel_rfl) (fun _ _ _ h => h) (by rfl) hHeld ?_
                try simp only [Act.put, List.setIfInBounds_toArray, List.set_cons_zero, List.set_cons_succ]
                refine pass_op (i := 12) (d := 101) rfl rfl (by kernel_rfl) (by kernel_rfl) (by kernel_rfl) (fun _ _ _ h => h) (by rfl) hHeld ?_
                try simp only [Act.put, List.setIfInBounds_toArray, List.set_cons_zero, List.set_cons_succ]
                refine pass_op (i := 13) (d := 102) rfl rfl (by kernel_rfl) (by kernel_rfl) (by kernel_rfl) (fun _ _ _ h => h) (by rfl) hHeld ?_
                try simp only [Act.put, List.setIfInBounds_toArray, List.set_cons_zero, List.set_cons_succ]
                refine pass_op (i := 14) (d := 103) rfl rfl (by kernel_rfl) (by kernel_rfl) (by kernel_rfl) (fun _ _ _ h => h) (by rfl) hHeld ?_
                try simp only [Act.put, List.setIfInBounds_toArray, List.set_cons_zero, List.set_cons_succ]
                refine pass_op (i := 15) (d := 104) rfl rfl (by kernel_rfl) (by kernel_rfl) (by kernel_rfl) (fun _ _ _ h => h) (by rfl) hHeld ?_
                try simp only [Act.put, List.setIfInBounds_toArray, List.set_cons_zero, List.set_cons_succ]
                refine pass_op (i := 16) (d := 105) rfl rfl (by kernel_rfl) (by kernel_rfl) (by kernel_rfl) (fun _ _ _ h => h) (by rfl) hHeld ?_
                try simp only [Act.put, List.setIfInBounds_toArray, List.set_cons_zero, List.set_cons_succ]
                refine pass_op (i := 17) (d := 106) rfl rfl (by kernel_rfl) (by kernel_rfl) (by kernel_rfl) (fun _ _ _ h => h) (by rfl) hHeld ?_
                try simp only [Act.put, List.setIfInBounds_toArray, List.set_cons_zero, List.set_cons_succ]
                refine pass_op (i := 18) (d := 107) rfl rfl (by kernel_rfl) (by kernel_rfl) (by kernel_rfl) (fun _ _ _ h => h) (by rfl) hHeld ?_
                try simp only [Act.put, List.setIfInBounds_toArray, List.set_cons_zero, List.set_cons_succ]
                refine pass_op (i := 19) (d := 108) rfl rfl (by kernel_rfl) (by kernel_rfl) (by kernel_rfl) (fun _ _ _ h => h) (by rfl) hHeld ?_
                try simp only [Act.put, List.setIfInBounds_toArray, List.set_cons_zero, List.set_cons_succ]
                refine pass_op (i := 20) (d := 109) rfl rfl (by kernel_rfl) (by kernel_rfl) (by kernel_rfl) (fun _ _ _ h => h) (by rfl) hHeld ?_
                try simp only [Act.put, List.setIfInBounds_toArray, List.set_cons_zero, List.set_cons_succ]
                refine pass_op (i := 21) (d := 110) rfl rfl (by kernel_rfl) (by kernel_rfl) (by kernel_rfl) (fun _ _ _ h => h) (by rfl) hHeld ?_
                try simp only [Act.put, List.setIfInBounds_toArray, List.set_cons_zero, List.set_cons_succ]
                refine pass_op (i := 22) (d := 111) rfl rfl (by kernel_rfl) (by kernel_rfl) (by kernel_rfl) (fun _ _ _ h => h) (by rfl) hHeld ?_
                try simp only [Act.put, List.setIfInBounds_toArray, List.set_cons_zero, List.set_cons_succ]
                refine take_op (i := 23) (d := 112) (OP := Op.pick (Operand.tmp 96) (Operand.const (Value.bool true)) (Operand.tmp 111)) (T := 4) (v := ?vogpf11) rfl rfl rfl rfl (by kernel_rfl) (by kernel_rfl) (by kernel_rfl) (fun _ _ _ h => h) (by rfl) ?hogpf11 hHeld ?rogpf11
                case hogpf11 => (intro w' hSw; (try dsimp only at hSw); go_simp <;> with_reducible rfl)
                try simp only [Act.put, List.setIfInBounds_toArray, List.set_cons_zero, List.set_cons_succ]
                refine wpAnyH_done (by kernel_rfl) ?_ _
                go_upto_region 22 with fail
                obtain ⟨wz, hwz⟩ : ∃ r, r = Wd.setCell ⟨D, 1, none⟩ (.int .i64 (at0 : Nat)) := ⟨_, rfl⟩
                rw [← hwz]
                have HZ := hide (dst_err SX.out HL.out hat hwz)
                clear hwz
                have hz2 : wz.heap[w.heap.size]? = some (.cells (oc6 (.slice none 0 0) 0 ⟨#[]⟩ 0 0 ⟨#[]⟩) 34 (0, 0)) := (HZ.out.2.block _ (Nat.lt_of_lt_of_le HN.out.2.2.1 HN.out.2.2.2) (by have := HN.out.2.1; omega)).trans HN.out.1
                obtain ⟨⟨u0, u1, u2, u3, u4, u5⟩, e0, e1, e2, e3, e4, e5⟩ := blk6 hz2
                have HZ2 := hide hz2
                clear hz2
                go_wp2
                refine ret_row_tmp w.heap.size (oc6 (.slice none 0 0) 0 ⟨#[]⟩ 0 0 ⟨#[]⟩).toList rfl rfl rfl Tryz.underlying34 rfl Tryz.info34z (set6 HZ2.out) rfl ?_
                rw [HXX.out]
                exact ⟨none, 0, rfl, Os.nil _ _, dst_fin HZ.out.1 H05.out HZ.out.2 HN.out.2.1⟩
              · have hrs := SX.out.own.rs
                have k13 : ∀ W, Below w12.heap.size w12 W → Calls Tryz.prog 13 #[odv pa L.length pc ⟨L, Ki.ofD 1, KS, 1, NN, ⟨#[]⟩⟩] W fun e w' => e = .returned (.int .i64 (chkO ⟨L, Ki.ofD 1, KS, 1, NN, ⟨#[]⟩⟩)) ∧ Below W.heap.size W w' := fun W hW => refChk_any (pc := pc) ⟨L, Ki.ofD 1, KS, 1, NN, ⟨#[]⟩⟩ (hrs.below hW)
                obtain ⟨cv, hcv⟩ : ∃ r, r = chkO ⟨L, Ki.ofD 1, KS, 1, NN, ⟨#[]⟩⟩ := ⟨_, rfl⟩
                rw [← hcv] at k13
                have HCV := hide hcv
                clear hcv
                obtain ⟨bo1, cap1, at1, d0, d1, df1, -, hat1, -, HL1, hlc1, hr1, hnil1, -⟩ := SX.out.doc.cells
                have hpl := dst_place HL.out HL1.out hat hat1 HSB.out
                obtain ⟨A, hsl, hrA⟩ := slice_rd hr1 rfl hpl hat1 hlc1
                have HS : Hid (∀ W, Below w12.heap.size w12 W → (W.cell? ⟨Eb, 0, none⟩ = some (.bool true)) ∧ (W.cell? ⟨Nb, 0, none⟩ = some (.slice pa L.length pc) ∧ W.cell? ⟨Nb, 1, none⟩ = some (.int .i64 (Ki.ofD 1)) ∧ W.cell? ⟨Nb, 2, none⟩ = some (.string KS) ∧ W.cell? ⟨Nb, 3, none⟩ = some (.int .i64 1) ∧ W.cell? ⟨Nb, 4, none⟩ = some (.int .i64 NN) ∧ W.cell? ⟨Nb, 5, none⟩ = some (.string ⟨#[]⟩)) ∧ (W.cell? ⟨D, 0, none⟩ = some (.slice bo1 LB.length cap1) ∧ W.cell? ⟨D, 1, none⟩ = some (.int .i64 ((at1 : Nat) : Int))) ∧ (convert 26 9 (.slice A (at1 - at0) (cap1 - at0))).run Tryz.prog W = .ok (.string (strOfNums ((LB.drop at0).take (at1 - at0)))) W) := hide (fun W hW => ⟨(SX.out.below hW).cells.1.1, (SX.out.below hW).cells.2.1, ⟨Ki.cell_stays d0 hW, Ki.cell_stays d1 hW⟩, conv_rd (cap := cap1 - at0) (hrA.below hW) (dst_len hat1 hpl)⟩)
                have hSLL : (LB.drop at0).take (at1 - at0) = l.take (l.length - mq.length) := by rw [← HL.out]; congr 1; have q1 := congrArg List.length HL1.out; have q2 := congrArg List.length HL.out; simp only [List.length_drop] at q1 q2; omega
                rw [hSLL] at HS
                clear hSLL hrA hr1 hnil1 d0 d1 df1
                obtain ⟨YL, hYL⟩ : ∃ r, r = l.take (l.length - mq.length) := ⟨_, rfl⟩
                rw [← hYL] at HS
                have HYL := hide hYL
                clear hYL
                refine wp_region_held_drew (S := fun w' => (w'.cell? ⟨Eb, 0, none⟩ = some (.bool true)) ∧ (w'.cell? ⟨Nb, 0, none⟩ = some (.slice pa L.length pc) ∧ w'.cell? ⟨Nb, 1, none⟩ = some (.int .i64 (Ki.ofD 1)) ∧ w'.cell? ⟨Nb, 2, none⟩ = some (.string KS) ∧ w'.cell? ⟨Nb, 3, none⟩ = some (.int .i64 1) ∧ w'.cell? ⟨Nb, 4, none⟩ = some (.int .i64 NN) ∧ w'.cell? ⟨Nb, 5, none⟩ = some (.string ⟨#[]⟩)) ∧ (w'.cell? ⟨D, 0, none⟩ = some (.slice bo1 LB.length cap1) ∧ w'.cell? ⟨D, 1, none⟩ = some (.int .i64 ((at1 : Nat) : Int))) ∧ (convert 26 9 (.slice A (at1 - at0) (cap1 - at0))).run Tryz.prog w' = .ok (.string (strOfNums YL)) w') (by kernel_rfl) (HS.out _ (Below.refl _ _).drew) (fun hHeld => ?_)
                have b0 : Below w12.heap.size w12 w12.drew := (Below.refl _ _).drew
                obtain ⟨Wd, hWd⟩ : ∃ r, r = w12.drew := ⟨_, rfl⟩
                rw [← hWd] at b0 hHeld ⊢
                clear hWd
                refine take_op (i := 0) (d := 89) (OP := Op.load 4 (Operand.tmp 5)) (T := 4) (v := ?vogpt12) rfl rfl rfl rfl (by kernel_rfl) (by kernel_rfl) (by kernel_rfl) (fun _ _ _ h => h) (by rfl) ?hogpt12 hHeld ?rogpt12
                case hogpt12 => (intro w' hSw; (try dsimp only at hSw); go_simp <;> with_reducible rfl)
                try simp only [Act.put, List.setIfInBounds_toArray, List.set_cons_zero, List.set_cons_succ]
                refine take_op (i := 1) (d := 90) (OP := Op.unOp UnOp.not 4 (Operand.tmp 89)) (T := 4) (v := ?vogpt13) rfl rfl rfl rfl (by kernel_rfl) (by kernel_rfl) (by kernel_rfl) (fun _ _ _ h => h) (by rfl) ?hogpt13 hHeld ?rogpt13
                case hogpt13 => (intro w' hSw; (try dsimp only at hSw); go_simp <;> with_reducible rfl)
                try simp only [Act.put, List.setIfInBounds_toArray, List.set_cons_zero, List.set_cons_succ]
                refine take_op (i := 2) (d := 91) (OP := Op.move (Operand.tmp 90)) (T := 4) (v := ?vogpt14) rfl rfl rfl rfl (by kernel_rfl) (by kernel_rfl) (by kernel_rfl) (fun _ _ _ h => h) (by rfl) ?hogpt14 hHeld ?rogpt14
                case hogpt14 => (intro w' hSw; (try dsimp only at hSw); go_simp <;> with_reducible rfl)
                try simp only [Act.put, List.setIfInBounds_toArray, List.set_cons_zero, List.set_cons_succ]
                refine take_op (i := 3) (d := 92) (OP := Op.load 34 (Operand.tmp 10)) (T := 34) (v := ?vogpt15) rfl rfl rfl rfl (by kernel_rfl) (by kernel_rfl) (by kernel_rfl) (fun _ _ _ h => h) (by rfl) ?hogpt15 hHeld ?rogpt15
                case hogpt15 => (intro w' hSw; (try dsimp only at hSw); go_simp <;> with_reducible rfl)
                try simp only [Act.put, List.setIfInBounds_toArray, List.set_cons_zero, List.set_cons_succ]
                refine call_op (i := 4) (d := 93) (OP := Op.call { callee := Callee.value (Operand.func 13), args := #[Operand.tmp 92], argTypes := #[34] }) (T := 3) (f := 13) (args := #[odv pa L.length pc ⟨L, Ki.ofD 1, KS, 1, NN, ⟨#[]⟩⟩]) rfl rfl rfl rfl (by kernel_rfl) (by rfl) (by go_simp) ?_
                refine (k13 _ b0).mono ?_
                rintro e y1 ⟨rfl, dy1⟩
                have by1 := b0.trans (dy1.mono b0.size)
                have sy1 := HS.out y1 by1
                refine ⟨_, rfl, sy1, ?_⟩
                replace hHeld := sy1
                clear sy1 dy1
                try simp only [Act.put, List.setIfInBounds_toArray, List.set_cons_zero, List.set_cons_succ]
                by_cases hv0 : cv = 0
                · subst hv0
                  have hok := ok_of HCV.out.symm
                  have k15 : Calls Tryz.prog 15 #[odv pa L.length pc ⟨L, Ki.ofD 1, KS, 1, NN, ⟨#[]⟩⟩] y1 fun e w' => Made 5 y1 w' e (frO ⟨L, Ki.ofD 1, KS, 1, NN, ⟨#[]⟩⟩) := refForm_any (pc := pc) ⟨L, Ki.ofD 1, KS, 1, NN, ⟨#[]⟩⟩ ((rp_of SX.out.own (by have := HLB.out; omega)).below by1) hok (dst_i64 H8.out HDR.out)
                  obtain ⟨XL, hXL⟩ : ∃ r, r = frO ⟨L, Ki.ofD 1, KS, 1, NN, ⟨#[]⟩⟩ := ⟨_, rfl⟩
                  rw [← hXL] at k15
                  have HXL := hide hXL
                  have hx8 : U8 XL := by rw [hXL]; exact frO_u8 _
                  have hy8 : U8 YL := by rw [HYL.out]; exact u8_take H8.out _
                  clear hXL hok
                  refine take_op (i := 5) (d := 94) (OP := Op.binOp BinOp.neq 3 (Operand.tmp 93) (Operand.const (Value.int IntKind.i64 0)) 3) (T := 4) (v := (.bool false)) rfl rfl rfl rfl (by kernel_rfl) (by kernel_rfl) (by kernel_rfl) (fun _ _ _ h => h) (by rfl) ?hogpd20 hHeld ?rogpd20
                  case hogpd20 => (intro w' hSw; (try dsimp only at hSw); go_simp <;> with_reducible rfl)
                  try simp only [Act.put, List.setIfInBounds_toArray, List.set_cons_zero, List.set_cons_succ]
                  refine take_op (i := 6) (d := 95) (OP := Op.pick (Operand.tmp 91) (Operand.const (Value.bool true)) (Operand.tmp 94)) (T := 4) (v := ?vogpd21) rfl rfl rfl rfl (by kernel_rfl) (by kernel_rfl) (by kernel_rfl) (fun _ _ _ h => h) (by rfl) ?hogpd21 hHeld ?rogpd21
                  case hogpd21 => (intro w' hSw; (try dsimp only at hSw); go_simp <;> with_reducible rfl)
                  try simp only [Act.put, List.setIfInBounds_toArray, List.set_cons_zero, List.set_cons_succ]
                  refine take_op (i := 7) (d := 96) (OP := Op.move (Operand.tmp 95)) (T := 4) (v := ?vogpd22) rfl rfl rfl rfl (by kernel_rfl) (by kernel_rfl) (by kernel_rfl) (fun _ _ _ h => h) (by rfl) ?hogpd22 hHeld ?rogpd22
                  case hogpd22 => (intro w' hSw; (try dsimp only at hSw); go_simp <;> with_reducible rfl)
                  try simp only [Act.put, List.setIfInBounds_toArray, List.set_cons_zero, List.set_cons_succ]
                  refine take_op (i := 8) (d := 97) (OP := Op.load 34 (Operand.tmp 10)) (T := 34) (v := ?vogpd23) rfl rfl rfl rfl (by kernel_rfl) (by kernel_rfl) (by kernel_rfl) (fun _ _ _ h => h) (by rfl) ?hogpd23 hHeld ?rogpd23
                  case hogpd23 => (intro w' hSw; (try dsimp only at hSw); go_simp <;> with_reducible rfl)
                  try simp only [Act.put, List.setIfInBounds_toArray, List.set_cons_zero, List.set_cons_succ]
                  refine take_op (i := 11) (d := 100) (OP := Op.move (Operand.tmp 0)) (T := 54) (v := ?vogpd24) rfl rfl rfl rfl (by kernel_rfl) (by kernel_rfl) (by kernel_rfl) (fun _ _ _ h => h) (by rfl) ?hogpd24 hHeld ?rogpd24
                  case hogpd24 => (intro w' hSw; (try dsimp only at hSw); go_simp <;> with_reducible rfl)
                  try simp only [Act.put, List.setIfInBounds_toArray, List.set_cons_zero, List.set_cons_succ]
                  refine take_op (i := 12) (d := 101) (OP := Op.nilCheck (Operand.tmp 100)) (T := 0) (v := ?vogpd25) rfl rfl rfl rfl (by kernel_rfl) (by kernel_rfl) (by kernel_rfl) (fun _ _ _ h => h) (by rfl) ?hogpd25 hHeld ?rogpd25
                  case hogpd25 => (intro w' hSw; (try dsimp only at hSw); go_simp <;> with_reducible rfl)
                  try simp only [Act.put, List.setIfInBounds_toArray, List.set_cons_zero, List.set_cons_succ]
                  refine take_op (i := 13) (d := 102) (OP := Op.fieldAddr 56 (Operand.tmp 101) 0) (T := 0) (v := ?vogpd26) rfl rfl rfl rfl (by kernel_rfl) (by kernel_rfl) (by kernel_rfl) (fun _ _ _ h => h) (by rfl) ?hogpd26 hHeld ?rogpd26
                  case hogpd26 => (intro w' hSw; (try dsimp only at hSw); go_simp <;> with_reducible rfl)
                  try simp only [Act.put, List.setIfInBounds_toArray, List.set_cons_zero, List.set_cons_succ]
                  refine take_op (i := 14) (d := 103) (OP := Op.load 26 (Operand.tmp 102)) (T := 26) (v := ?vogpd27) rfl rfl rfl rfl (by kernel_rfl) (by kernel_rfl) (by kernel_rfl) (fun _ _ _ h => h) (by rfl) ?hogpd27 hHeld ?rogpd27
                  case hogpd27 => (intro w' hSw; (try dsimp only at hSw); go_simp <;> with_reducible rfl)
                  try simp only [Act.put, List.setIfInBounds_toArray, List.set_cons_zero, List.set_cons_succ]
                  refine take_op (i := 15) (d := 104) (OP := Op.move (Operand.tmp 4)) (T := 3) (v := ?vogpd28) rfl rfl rfl rfl (by kernel_rfl) (by kernel_rfl) (by kernel_rfl) (fun _ _ _ h => h) (by rfl) ?hogpd28 hHeld ?rogpd28
                  case hogpd28 => (intro w' hSw; (try dsimp only at hSw); go_simp <;> with_reducible rfl)
                  try simp only [Act.put, List.setIfInBounds_toArray, List.set_cons_zero, List.set_cons_succ]
                  refine take_op (i := 16) (d := 105) (OP := Op.move (Operand.tmp 0)) (T := 54) (v := ?vogpd29) rfl rfl rfl rfl (by kernel_rfl) (by kernel_rfl) (by kernel_rfl) (fun _ _ _ h => h) (by rfl) ?hogpd29 hHeld ?rogpd29
                  case hogpd29 => (intro w' hSw; (try dsimp only at hSw); go_simp <;> with_reducible rfl)
                  try simp only [Act.put, List.setIfInBounds_toArray, List.set_cons_zero, List.set_cons_succ]
                  refine take_op (i := 17) (d := 106) (OP := Op.nilCheck (Operand.tmp 105)) (T := 0) (v := ?vogpd30) rfl rfl rfl rfl (by kernel_rfl) (by kernel_rfl) (by kernel_rfl) (fun _ _ _ h => h) (by rfl) ?hogpd30 hHeld ?rogpd30
                  case hogpd30 => (intro w' hSw; (try dsimp only at hSw); go_simp <;> with_reducible rfl)
                  try simp only [Act.put, List.setIfInBounds_toArray, List.set_cons_zero, List.set_cons_succ]
                  refine take_op (i := 18) (d := 107) (OP := Op.fieldAddr 56 (Operand.tmp 106) 1) (T := 0) (v := ?vogpd31) rfl rfl rfl rfl (by kernel_rfl) (by kernel_rfl) (by kernel_rfl) (fun _ _ _ h => h) (by rfl) ?hogpd31 hHeld ?rogpd31
                  case hogpd31 => (intro w' hSw; (try dsimp only at hSw); go_simp <;> with_reducible rfl)
                  try simp only [Act.put, List.setIfInBounds_toArray, List.set_cons_zero, List.set_cons_succ]
                  refine take_op (i := 19) (d := 108) (OP := Op.load 3 (Operand.tmp 107)) (T := 3) (v := ?vogpd32) rfl rfl rfl rfl (by kernel_rfl) (by kernel_rfl) (by kernel_rfl) (fun _ _ _ h => h) (by rfl) ?hogpd32 hHeld ?rogpd32
                  case hogpd32 => (intro w' hSw; (try dsimp only at hSw); go_simp <;> with_reducible rfl)
                  try simp only [Act.put, List.setIfInBounds_toArray, List.set_cons_zero, List.set_cons_succ]
                  refine take_op (i := 20) (d := 109) (OP := Op.slice 26 (Operand.tmp 103) (some (Operand.tmp 104)) (some (Operand.tmp 108)) none) (T := 26) (v := (.slice A (at1 - at0) (cap1 - at0))) rfl rfl rfl rfl (by kernel_rfl) (by kernel_rfl) (by kernel_rfl) (fun _ _ _ h => h) (by rfl) ?hogpd33 hHeld ?rogpd33
                  case hogpd33 => (intro w' hSw; (try dsimp only at hSw); exact exec_slice2 hsl rfl rfl rfl)
                  try simp only [Act.put, List.setIfInBounds_toArray, List.set_cons_zero, List.set_cons_succ]
                  refine take_op (i := 21) (d := 110) (OP := Op.convert 26 9 (Operand.tmp 109)) (T := 9) (v := ?vogpd34) rfl rfl rfl rfl (by kernel_rfl) (by kernel_rfl) (by kernel_rfl) (fun _ _ _ h => h) (by rfl) ?hogpd34 hHeld ?rogpd34
                  case hogpd34 => (intro w' hSw; (try dsimp only at hSw); go_simp <;> with_reducible rfl)
                  try simp only [Act.put, List.setIfInBounds_toArray, List.set_cons_zero, List.set_cons_succ]
                  refine call_op (i := 9) (d := 98) (OP := Op.call { callee := Callee.value (Operand.func 15), args := #[Operand.tmp 97], argTypes := #[34] }) (T := 26) (f := 15) (args := #[odv pa L.length pc ⟨L, Ki.ofD 1, KS, 1, NN, ⟨#[]⟩⟩]) rfl rfl rfl rfl (by kernel_rfl) (by rfl) (by go_simp) ?_
                  refine k15.mono ?_
                  rintro e y2 ⟨mA, mc, rfl, mO, mn, dy2⟩
                  have by2 := by1.trans (dy2.mono by1.size)
                  have sy2 := HS.out y2 by2
                  have HMM : ∀ W, Below y2.heap.size y2 W → (convert 26 9 (.slice mA XL.length mc)).run Tryz.prog W = .ok (.string (strOfNums XL)) W := fun W hW => conv_rd (cap := mc) (mO.rd.below hW) rfl
                  have sy3 := HMM y2 (Below.refl _ _)
                  refine ⟨_, rfl, sy2, ?_⟩
                  refine wpAnyH_mono (S' := fun w' => ((w'.cell? ⟨Eb, 0, none⟩ = some (.bool true)) ∧ (w'.cell? ⟨Nb, 0, none⟩ = some (.slice pa L.length pc) ∧ w'.cell? ⟨Nb, 1, none⟩ = some (.int .i64 (Ki.ofD 1)) ∧ w'.cell? ⟨Nb, 2, none⟩ = some (.string KS) ∧ w'.cell? ⟨Nb, 3, none⟩ = some (.int .i64 1) ∧ w'.cell? ⟨Nb, 4, none⟩ = some (.int .i64 NN) ∧ w'.cell? ⟨Nb, 5, none⟩ = some (.string ⟨#[]⟩)) ∧ (w'.cell? ⟨D, 0, none⟩ = some (.slice bo1 LB.length cap1) ∧ w'.cell? ⟨D, 1, none⟩ = some (.int .i64 ((at1 : Nat) : Int))) ∧ (convert 26 9 (.slice A (at1 - at0) (cap1 - at0))).run Tryz.prog w' = .ok (.string (strOfNums YL)) w') ∧ (convert 26 9 (.slice mA XL.length mc)).run Tryz.prog w' = .ok (.string (strOfNums XL)) w') (fun _ h => h.1) ?_
                  replace hHeld := And.intro sy2 sy3
                  clear sy2 sy3 dy2 mO mn HMM k15 k13
                  try simp only [Act.put, List.setIfInBounds_toArray, List.set_cons_zero, List.set_cons_succ]
                  refine take_op (i := 10) (d := 99) (OP := Op.convert 26 9 (Operand.tmp 98)) (T := 9) (v := ?vogpd35) rfl rfl rfl rfl (by kernel_rfl) (by kernel_rfl) (by kernel_rfl) (fun _ _ _ h => h) (by rfl) ?hogpd35 hHeld ?rogpd35
                  case hogpd35 => (intro w' hSw; (try dsimp only at hSw); go_simp <;> with_reducible rfl)
                  try simp only [Act.put, List.setIfInBounds_toArray, List.set_cons_zero, List.set_cons_succ]
                  by_cases hxy : XL = YL
                  · subst hxy
                    refine take_op (i := 22) (d := 111) (OP := Op.binOp BinOp.neq 9 (Operand.tmp 99) (Operand.tmp 110) 9) (T := 4) (v := (.bool false)) rfl rfl rfl rfl (by kernel_rfl) (by kernel_rfl) (by kernel_rfl) (fun _ _ _ h => h) (by rfl) ?hogpe36 hHeld ?rogpe36
                    case hogpe36 => (intro w' hSw; exact exec_ne9 rfl rfl (by simp))
                    try simp only [Act.put, List.setIfInBounds_toArray, List.set_cons_zero, List.set_cons_succ]
                    have HXX : Hid (dtake l = (⟨L, Ki.ofD 1, KS, 1, NN, ⟨#[]⟩⟩, 0, mq)) := hide (by unfold dtake; rw [HDR.out]; exact if_pos ⟨rfl, HCV.out.symm, HXL.out.symm.trans HYL.out⟩)
                    refine take_op (i := 23) (d := 112) (OP := Op.pick (Operand.tmp 96) (Operand.const (Value.bool true)) (Operand.tmp 111)) (T := 4) (v := ?vogpe37) rfl rfl rfl rfl (by kernel_rfl) (by kernel_rfl) (by kernel_rfl) (fun _ _ _ h => h) (by rfl) ?hogpe37 hHeld ?rogpe37
                    case hogpe37 => (intro w' hSw; (try dsimp only at hSw); go_simp <;> with_reducible rfl)
                    try simp only [Act.put, List.setIfInBounds_toArray, List.set_cons_zero, List.set_cons_succ]
                    refine wpAnyH_done (by kernel_rfl) ?_ _
                    have sx := SX.out.below by2
                    clear SX
                    have SX := hide sx
                    clear sx
                    have hx2 : y2.heap[w.heap.size]? = some (.cells (oc6 (.slice none 0 0) 0 ⟨#[]⟩ 0 0 ⟨#[]⟩) 34 (0, 0)) := (SX.out.only.block _ (Nat.lt_of_lt_of_le HN.out.2.2.1 HN.out.2.2.2) (by have := HN.out.2.1; omega)).trans HN.out.1
                    obtain ⟨⟨u0, u1, u2, u3, u4, u5⟩, e0, e1, e2, e3, e4, e5⟩ := blk6 hx2
                    have HX2 := hide hx2
                    clear hx2
                    go_wp2
                    refine ret_row_tmp w.heap.size (oc6 (.slice pa L.length pc) (Ki.ofD 1) KS 1 NN ⟨#[]⟩).toList rfl rfl rfl Tryz.underlying34 rfl Tryz.info34z (set6 HX2.out) rfl ?_
                    rw [HXX.out]
                    exact ⟨pa, pc, rfl, dst_own SX.out HN.out.2.1, dst_fin SX.out.doc H05.out SX.out.only HN.out.2.1⟩
                  · have hne := str_ne hx8 hy8 hxy
                    refine take_op (i := 22) (d := 111) (OP := Op.binOp BinOp.neq 9 (Operand.tmp 99) (Operand.tmp 110) 9) (T := 4) (v := (.bool true)) rfl rfl rfl rfl (by kernel_rfl) (by kernel_rfl) (by kernel_rfl) (fun _ _ _ h => h) (by rfl) ?hogpn38 hHeld ?rogpn38
                    case hogpn38 => (intro w' hSw; exact exec_ne9 rfl rfl (by rw [bne, hne]; rfl))
                    try simp only [Act.put, List.setIfInBounds_toArray, List.set_cons_zero, List.set_cons_succ]
                    have HXX : Hid (dtake l = (odZ, 4, l)) := hide (by unfold dtake; rw [HDR.out]; exact if_neg (fun h => hxy (HXL.out.trans (h.2.2.trans HYL.out.symm))))
                    refine take_op (i := 23) (d := 112) (OP := Op.pick (Operand.tmp 96) (Operand.const (Value.bool true)) (Operand.tmp 111)) (T := 4) (v := ?vogpn39) rfl rfl rfl rfl (by kernel_rfl) (by kernel_rfl) (by kernel_rfl) (fun _ _ _ h => h) (by rfl) ?hogpn39 hHeld ?rogpn39
                    case hogpn39 => (intro w' hSw; (try dsimp only at hSw); go_simp <;> with_reducible rfl)
                    try simp only [Act.put, List.setIfInBounds_toArray, List.set_cons_zero, List.set_cons_succ]
                    refine wpAnyH_done (by kernel_rfl) ?_ _
                    have sx := SX.out.below by2
                    clear SX
                    have SX := hide sx
                    clear sx
                    obtain ⟨bo2, cap2, at2, d0, d1, df1, -⟩ := SX.out.doc.cells
                    go_upto_region 22 with fail
                    obtain ⟨wz, hwz⟩ : ∃ r, r = y2.setCell ⟨D, 1, none⟩ (.int .i64 (at0 : Nat)) := ⟨_, rfl⟩
                    rw [← hwz]
                    have HZ := hide (dst_err SX.out HL.out hat hwz)
                    clear hwz
                    have hz2 : wz.heap[w.heap.size]? = some (.cells (oc6 (.slice none 0 0) 0 ⟨#[]⟩ 0 0 ⟨#[]⟩) 34 (0, 0)) := (HZ.out.2.block _ (Nat.lt_of_lt_of_le HN.out.2.2.1 HN.out.2.2.2) (by have := HN.out.2.1; omega)).trans HN.out.1
                    obtain ⟨⟨u0, u1, u2, u3, u4, u5⟩, e0, e1, e2, e3, e4, e5⟩ := blk6 hz2
                    have HZ2 := hide hz2
                    clear hz2
                    go_wp2
                    refine ret_row_tmp w.heap.size (oc6 (.slice none 0 0) 0 ⟨#[]⟩ 0 0 ⟨#[]⟩).toList rfl rfl rfl Tryz.underlying34 rfl Tryz.info34z (set6 HZ2.out) rfl ?_
                    rw [HXX.out]
                    exact ⟨none, 0, rfl, Os.nil _ _, dst_fin HZ.out.1 H05.out HZ.out.2 HN.out.2.1⟩
                · have hv1 : (cv != 0) = true := by simpa using hv0
                  have HXX : Hid (dtake l = (odZ, 4, l)) := hide (by unfold dtake; rw [HDR.out]; exact if_neg (fun h => hv0 (HCV.out.trans h.2.1)))
                  refine take_op (i := 5) (d := 94) (OP := Op.binOp BinOp.neq 3 (Operand.tmp 93) (Operand.const (Value.int IntKind.i64 0)) 3) (T := 4) (v := (.bool true)) rfl rfl rfl rfl (by kernel_rfl) (by kernel_rfl) (by kernel_rfl) (fun _ _ _ h => h) (by rfl) ?hogpc16 hHeld ?rogpc16
                  case hogpc16 => (intro w' hSw; (try dsimp only at hSw); go_simp <;> with_reducible rfl)
                  try simp only [Act.put, List.setIfInBounds_toArray, List.set_cons_zero, List.set_cons_succ]
                  refine take_op (i := 6) (d := 95) (OP := Op.pick (Operand.tmp 91) (Operand.const (Value.bool true)) (Operand.tmp 94)) (T := 4) (v := ?vogpc17) rfl rfl rfl rfl (by kernel_rfl) (by kernel_rfl) (by kernel_rfl) (fun _ _ _ h => h) (by rfl) ?hogpc17 hHeld ?rogpc17
                  case hogpc17 => (intro w' hSw; (try dsimp only at hSw); go_simp <;> with_reducible rfl)
                  try simp only [Act.put, List.setIfInBounds_toArray, List.set_cons_zero, List.set_cons_succ]
                  refine take_op (i := 7) (d := 96) (OP := Op.move (Operand.tmp 95)) (T := 4) (v := ?vogpc18) rfl rfl rfl rfl (by kernel_rfl) (by kernel_rfl) (by kernel_rfl) (fun _ _ _ h => h) (by rfl) ?hogpc18 hHeld ?rogpc18
                  case hogpc18 => (intro w' hSw; (try dsimp only at hSw); go_simp <;> with_reducible rfl)
                  try simp only [Act.put, List.setIfInBounds_toArray, List.set_cons_zero, List.set_cons_succ]
                  refine pass_op (i := 8) (d := 97) rfl rfl (by kernel_rfl) (by kernel_rfl) (by kernel_rfl) (fun _ _ _ h => h) (by rfl) hHeld ?_
                  try simp only [Act.put, List.setIfInBounds_toArray, List.set_cons_zero, List.set_cons_succ]
                  refine pass_op (i := 9) (d := 98) rfl rfl (by kernel_rfl) (by kernel_rfl) (by kernel_rfl) (fun _ _ _ h => h) (by rfl) hHeld ?_
                  try simp only [Act.put, List.setIfInBounds_toArray, List.set_cons_zero, List.set_cons_succ]
                  refine pass_op (i := 10) (d := 99) rfl rfl (by kernel_rfl) (by kernel_rfl) (by kernel_rfl) (fun _ _ _ h => h) (by rfl) hHeld ?_
                  try simp only [Act.put, List.setIfInBounds_toArray, List.set_cons_zero, List.set_cons_succ]
                  refine pass_op (i := 11) (d := 100) rfl rfl (by kernel_rfl) (by kernel_rfl) (by kernel_rfl) (fun _ _ _ h => h) (by rfl) hHeld ?_
                  try simp only [Act.put, List.setIfInBounds_toArray, List.set_cons_zero, List.set_cons_succ]
                  refine pass_op (i := 12) (d := 101) rfl rfl (by kernel_rfl) (by kernel_rfl) (by kernel_rfl) (fun _ _ _ h => h) (by rfl) hHeld ?_
                  try simp only [Act.put, List.setIfInBounds_toArray, List.set_cons_zero, List.set_cons_succ]
                  refine pass_op (i := 13) (d := 102) rfl rfl (by kernel_rfl) (by kernel_rfl) (by kernel_rfl) (fun _ _ _ h => h) (by rfl) hHeld ?_
                  try simp only [Act.put, List.setIfInBounds_toArray, List.set_cons_zero, List.set_cons_succ]
                  refine pass_op (i := 14) (d := 103) rfl rfl (by kernel_rfl) (by kernel_rfl) (by kernel_rfl) (fun _ _ _ h => h) (by rfl) hHeld ?_
                  try simp only [Act.put, List.setIfInBounds_toArray, List.set_cons_zero, List.set_cons_succ]
                  refine pass_op (i := 15) (d := 104) rfl rfl (by kernel_rfl) (by kernel_rfl) (by kernel_rfl) (fun _ _ _ h => h) (by rfl) hHeld ?_
                  try simp only [Act.put, List.setIfInBounds_toArray, List.set_cons_zero, List.set_cons_succ]
                  refine pass_op (i := 16) (d := 105) rfl rfl (by kernel_rfl) (by kernel_rfl) (by kernel_rfl) (fun _ _ _ h => h) (by rfl) hHeld ?_
                  try simp only [Act.put, List.setIfInBounds_toArray, List.set_cons_zero, List.set_cons_succ]
                  refine pass_op (i := 17) (d := 106) rfl rfl (by kernel_rfl) (by kernel_rfl) (by kernel_rfl) (fun _ _ _ h => h) (by rfl) hHeld ?_
                  try simp only [Act.put, List.setIfInBounds_toArray, List.set_cons_zero, List.set_cons_succ]
                  refine pass_op (i := 18) (d := 107) rfl rfl (by kernel_rfl) (by kernel_rfl) (by kernel_rfl) (fun _ _ _ h => h) (by rfl) hHeld ?_
                  try simp only [Act.put, List.setIfInBounds_toArray, List.set_cons_zero, List.set_cons_succ]
                  refine pass_op (i := 19) (d := 108) rfl rfl (by kernel_rfl) (by kernel_rfl) (by kernel_rfl) (fun _ _ _ h => h) (by rfl) hHeld ?_
                  try simp only [Act.put, List.setIfInBounds_toArray, List.set_cons_zero, List.set_cons_succ]
                  refine pass_op (i := 20) (d := 109) rfl rfl (by kernel_rfl) (by kernel_rfl) (by kernel_rfl) (fun _ _ _ h => h) (by rfl) hHeld ?_
                  try simp only [Act.put, List.setIfInBounds_toArray, List.set_cons_zero, List.set_cons_succ]
                  refine pass_op (i := 21) (d := 110) rfl rfl (by kernel_rfl) (by kernel_rfl) (by kernel_rfl) (fun _ _ _ h => h) (by rfl) hHeld ?_
                  try simp only [Act.put, List.setIfInBounds_toArray, List.set_cons_zero, List.set_cons_succ]
                  refine pass_op (i := 22) (d := 111) rfl rfl (by kernel_rfl) (by kernel_rfl) (by kernel_rfl) (fun _ _ _ h => h) (by rfl) hHeld ?_
                  try simp only [Act.put, List.setIfInBounds_toArray, List.set_cons_zero, List.set_cons_succ]
                  refine take_op (i := 23) (d := 112) (OP := Op.pick (Operand.tmp 96) (Operand.const (Value.bool true)) (Operand.tmp 111)) (T := 4) (v := ?vogpc19) rfl rfl rfl rfl (by kernel_rfl) (by kernel_rfl) (by kernel_rfl) (fun _ _ _ h => h) (by rfl) ?hogpc19 hHeld ?rogpc19
                  case hogpc19 => (intro w' hSw; (try dsimp only at hSw); go_simp <;> with_reducible rfl)
                  try simp only [Act.put, List.setIfInBounds_toArray, List.set_cons_zero, List.set_cons_succ]
                  refine wpAnyH_done (by kernel_rfl) ?_ _
                  have sx := SX.out.below by1
                  clear SX
                  have SX := hide sx
                  clear sx
                  obtain ⟨bo2, cap2, at2, d0, d1, df1, -⟩ := SX.out.doc.cells
                  go_upto_region 22 with fail
                  obtain ⟨wz, hwz⟩ : ∃ r, r = y1.setCell ⟨D, 1, none⟩ (.int .i64 (at0 : Nat)) := ⟨_, rfl⟩
                  rw [← hwz]
                  have HZ := hide (dst_err SX.out HL.out hat hwz)
                  clear hwz
                  have hz2 : wz.heap[w.heap.size]? = some (.cells (oc6 (.slice none 0 0) 0 ⟨#[]⟩ 0 0 ⟨#[]⟩) 34 (0, 0)) := (HZ.out.2.block _ (Nat.lt_of_lt_of_le HN.out.2.2.1 HN.out.2.2.2) (by have := HN.out.2.1; omega)).trans HN.out.1
                  obtain ⟨⟨u0, u1, u2, u3, u4, u5⟩, e0, e1, e2, e3, e4, e5⟩ := blk6 hz2
                  have HZ2 := hide hz2
                  clear hz2
                  go_wp2
                  refine ret_row_tmp w.heap.size (oc6 (.slice none 0 0) 0 ⟨#[]⟩ 0 0 ⟨#[]⟩).toList rfl rfl rfl Tryz.underlying34 rfl Tryz.info34z (set6 HZ2.out) rfl ?_
                  rw [HXX.out]
                  exact ⟨none, 0, rfl, Os.nil _ _, dst_fin HZ.out.1 H05.out HZ.out.2 HN.out.2.1⟩
          · have e1 : (dv == 1) = false := by simpa using h1
            by_cases h6 : dv = 6
            · subst h6
              have h4 : drd4 6 bK qK = ((0, ⟨#[]⟩), bK, qK) := by unfold drd4; rw [if_neg (by decide), if_pos rfl]
              rw [h4] at HDR
              dsimp only at HDR
              clear h4
              go_upto_region 20 with fail
              clear okc okf x0 x1 x2 x3 x4 x5 f0 f1 f2 f3 f4 f5
              have SX := S9
              have HSB : Hid (∃ k, qK = l.drop k) := hide (by have := HSB0.out; rw [HDR.out] at this; exact this)

              have hB : (bK) = false ∨ (bK) = true := by cases (bK); exact .inl rfl; exact .inr rfl
              obtain ⟨BB, hBB⟩ : ∃ r, r = (bK) := ⟨_, rfl⟩
              rw [← hBB] at SX HDR hB
              clear hBB
              rcases hB with rfl | rfl
              · have HXX : Hid (dtake l = (odZ, 4, l)) := hide (by unfold dtake; rw [HDR.out]; exact if_neg (fun h => by cases h.1))
                refine wp_region_held_drew (S := fun w' => w'.cell? ⟨Eb, 0, none⟩ = some (.bool false)) (by kernel_rfl) (SX.out.below (Below.refl _ _).drew).cells.1.1 (fun hHeld => ?_)
                have sx := SX.out.below (Below.refl _ _).drew
                obtain ⟨Wd, hWd⟩ : ∃ r, r = w9.drew := ⟨_, rfl⟩
                rw [← hWd] at sx hHeld ⊢
                clear hWd SX
                have SX := hide sx
                clear sx
                obtain ⟨bo1, cap1, at1, d0, d1, df1, -⟩ := SX.out.doc.cells
                refine take_op (i := 0) (d := 89) (OP := Op.load 4 (Operand.tmp 5)) (T := 4) (v := ?vogqf40) rfl rfl rfl rfl (by kernel_rfl) (by kernel_rfl) (by kernel_rfl) (fun _ _ _ h => h) (by rfl) ?hogqf40 hHeld ?rogqf40
                case hogqf40 => (intro w' hSw; (try dsimp only at hSw); go_simp <;> with_reducible rfl)
                try simp only [Act.put, List.setIfInBounds_toArray, List.set_cons_zero, List.set_cons_succ]
                refine take_op (i := 1) (d := 90) (OP := Op.unOp UnOp.not 4 (Operand.tmp 89)) (T := 4) (v := ?vogqf41) rfl rfl rfl rfl (by kernel_rfl) (by kernel_rfl) (by kernel_rfl) (fun _ _ _ h => h) (by rfl) ?hogqf41 hHeld ?rogqf41
                case hogqf41 => (intro w' hSw; (try dsimp only at hSw); go_simp <;> with_reducible rfl)
                try simp only [Act.put, List.setIfInBounds_toArray, List.set_cons_zero, List.set_cons_succ]
                refine take_op (i := 2) (d := 91) (OP := Op.move (Operand.tmp 90)) (T := 4) (v := ?vogqf42) rfl rfl rfl rfl (by kernel_rfl) (by kernel_rfl) (by kernel_rfl) (fun _ _ _ h => h) (by rfl) ?hogqf42 hHeld ?rogqf42
                case hogqf42 => (intro w' hSw; (try dsimp only at hSw); go_simp <;> with_reducible rfl)
                try simp only [Act.put, List.setIfInBounds_toArray, List.set_cons_zero, List.set_cons_succ]
                refine pass_op (i := 3) (d := 92) rfl rfl (by kernel_rfl) (by kernel_rfl) (by kernel_rfl) (fun _ _ _ h => h) (by rfl) hHeld ?_
                try simp only [Act.put, List.setIfInBounds_toArray, List.set_cons_zero, List.set_cons_succ]
                refine pass_op (i := 4) (d := 93) rfl rfl (by kernel_rfl) (by kernel_rfl) (by kernel_rfl) (fun _ _ _ h => h) (by rfl) hHeld ?_
                try simp only [Act.put, List.setIfInBounds_toArray, List.set_cons_zero, List.set_cons_succ]
                refine pass_op (i := 5) (d := 94) rfl rfl (by kernel_rfl) (by kernel_rfl) (by kernel_rfl) (fun _ _ _ h => h) (by rfl) hHeld ?_
                try simp only [Act.put, List.setIfInBounds_toArray, List.set_cons_zero, List.set_cons_succ]
                refine take_op (i := 6) (d := 95) (OP := Op.pick (Operand.tmp 91) (Operand.const (Value.bool true)) (Operand.tmp 94)) (T := 4) (v := ?vogqf43) rfl rfl rfl rfl (by kernel_rfl) (by kernel_rfl) (by kernel_rfl) (fun _ _ _ h => h) (by rfl) ?hogqf43 hHeld ?rogqf43
                case hogqf43 => (intro w' hSw; (try dsimp only at hSw); go_simp <;> with_reducible rfl)
                try simp only [Act.put, List.setIfInBounds_toArray, List.set_cons_zero, List.set_cons_succ]
                refine take_op (i := 7) (d := 96) (OP := Op.move (Operand.tmp 95)) (T := 4) (v := ?vogqf44) rfl rfl rfl rfl (by kernel_rfl) (by kernel_rfl) (by kernel_rfl) (fun _ _ _ h => h) (by rfl) ?hogqf44 hHeld ?rogqf44
                case hogqf44 => (intro w' hSw; (try dsimp only at hSw); go_simp <;> with_reducible rfl)
                try simp only [Act.put, List.setIfInBounds_toArray, List.set_cons_zero, List.set_cons_succ]
                refine pass_op (i := 8) (d := 97) rfl rfl (by kernel_rfl) (by kernel_rfl) (by kernel_rfl) (fun _ _ _ h => h) (by rfl) hHeld ?_
                try simp only [Act.put, List.setIfInBounds_toArray, List.set_cons_zero, List.set_cons_succ]
                refine pass_op (i := 9) (d := 98) rfl rfl (by kernel_rfl) (by kernel_rfl) (by kernel_rfl) (fun _ _ _ h => h) (by rfl) hHeld ?_
                try simp only [Act.put, List.setIfInBounds_toArray, List.set_cons_zero, List.set_cons_succ]
                refine pass_op (i := 10) (d := 99) rfl rfl (by kernel_rfl) (by kernel_rfl) (by kernel_rfl) (fun _ _ _ h => h) (by rfl) hHeld ?_
                try simp only [Act.put, List.setIfInBounds_toArray, List.set_cons_zero, List.set_cons_succ]
                refine pass_op (i := 11) (d := 100) rfl rfl (by kernel_rfl) (by kernel_rfl) (by kernel_rfl) (fun _ _ _ h => h) (by rfl) hHeld ?_
                try simp only [Act.put, List.setIfInBounds_toArray, List.set_cons_zero, List.set_cons_succ]
                refine pass_op (i := 12) (d := 101) rfl rfl (by kernel_rfl) (by kernel_rfl) (by kernel_rfl) (fun _ _ _ h => h) (by rfl) hHeld ?_
                try simp only [Act.put, List.setIfInBounds_toArray, List.set_cons_zero, List.set_cons_succ]
                refine pass_op (i := 13) (d := 102) rfl rfl (by kernel_rfl) (by kernel_rfl) (by kernel_rfl) (fun _ _ _ h => h) (by rfl) hHeld ?_
                try simp only [Act.put, List.setIfInBounds_toArray, List.set_cons_zero, List.set_cons_succ]
                refine pass_op (i := 14) (d := 103) rfl rfl (by kernel_rfl) (by kernel_rfl) (by kernel_rfl) (fun _ _ _ h => h) (by rfl) hHeld ?_
                try simp only [Act.put, List.setIfInBounds_toArray, List.set_cons_zero, List.set_cons_succ]
                refine pass_op (i := 15) (d := 104) rfl rfl (by kernel_rfl) (by kernel_rfl) (by kernel_rfl) (fun _ _ _ h => h) (by rfl) hHeld ?_
                try simp only [Act.put, List.setIfInBounds_toArray, List.set_cons_zero, List.set_cons_succ]
                refine pass_op (i := 16) (d := 105) rfl rfl (by kernel_rfl) (by kernel_rfl) (by kernel_rfl) (fun _ _ _ h => h) (by rfl) hHeld ?_
                try simp only [Act.put, List.setIfInBounds_toArray, List.set_cons_zero, List.set_cons_succ]
                refine pass_op (i := 17) (d := 106) rfl rfl (by kernel_rfl) (by kernel_rfl) (by kernel_rfl) (fun _ _ _ h => h) (by rfl) hHeld ?_
                try simp only [Act.put, List.setIfInBounds_toArray, List.set_cons_zero, List.set_cons_succ]
                refine pass_op (i := 18) (d := 107) rfl rfl (by kernel_rfl) (by kernel_rfl) (by kernel_rfl) (fun _ _ _ h => h) (by rfl) hHeld ?_
                try simp only [Act.put, List.setIfInBounds_toArray, List.set_cons_zero, List.set_cons_succ]
                refine pass_op (i := 19) (d := 108) rfl rfl (by kernel_rfl) (by kernel_rfl) (by kernel_rfl) (fun _ _ _ h => h) (by rfl) hHeld ?_
                try simp only [Act.put, List.setIfInBounds_toArray, List.set_cons_zero, List.set_cons_succ]
                refine pass_op (i := 20) (d := 109) rfl rfl (by kernel_rfl) (by kernel_rfl) (by kernel_rfl) (fun _ _ _ h => h) (by rfl) hHeld ?_
                try simp only [Act.put, List.setIfInBounds_toArray, List.set_cons_zero, List.set_cons_succ]
                refine pass_op (i := 21) (d := 110) rfl rfl (by kernel_rfl) (by kernel_rfl) (by kernel_rfl) (fun _ _ _ h => h) (by rfl) hHeld ?_
                try simp only [Act.put, List.setIfInBounds_toArray, List.set_cons_zero, List.set_cons_succ]
                refine pass_op (i := 22) (d := 111) rfl rfl (by kernel_rfl) (by kernel_rfl) (by kernel_rfl) (fun _ _ _ h => h) (by rfl) hHeld ?_
                try simp only [Act.put, List.setIfInBounds_toArray, List.set_cons_zero, List.set_cons_succ]
                refine take_op (i := 23) (d := 112) (OP := Op.pick (Operand.tmp 96) (Operand.const (Value.bool true)) (Operand.tmp 111)) (T := 4) (v := ?vogqf45) rfl rfl rfl rfl (by kernel_rfl) (by kernel_rfl) (by kernel_rfl) (fun _ _ _ h => h) (by rfl) ?hogqf45 hHeld ?rogqf45
                case hogqf45 => (intro w' hSw; (try dsimp only at hSw); go_simp <;> with_reducible rfl)
                try simp only [Act.put, List.setIfInBounds_toArray, List.set_cons_zero, List.set_cons_succ]
                refine wpAnyH_done (by kernel_rfl) ?_ _
                go_upto_region 22 with fail
                obtain ⟨wz, hwz⟩ : ∃ r, r = Wd.setCell ⟨D, 1, none⟩ (.int .i64 (at0 : Nat)) := ⟨_, rfl⟩
                rw [← hwz]
                have HZ := hide (dst_err SX.out HL.out hat hwz)
                clear hwz
                have hz2 : wz.heap[w.heap.size]? = some (.cells (oc6 (.slice none 0 0) 0 ⟨#[]⟩ 0 0 ⟨#[]⟩) 34 (0, 0)) := (HZ.out.2.block _ (Nat.lt_of_lt_of_le HN.out.2.2.1 HN.out.2.2.2) (by have := HN.out.2.1; omega)).trans HN.out.1
                obtain ⟨⟨u0, u1, u2, u3, u4, u5⟩, e0, e1, e2, e3, e4, e5⟩ := blk6 hz2
                have HZ2 := hide hz2
                clear hz2
                go_wp2
                refine ret_row_tmp w.heap.size (oc6 (.slice none 0 0) 0 ⟨#[]⟩ 0 0 ⟨#[]⟩).toList rfl rfl rfl Tryz.underlying34 rfl Tryz.info34z (set6 HZ2.out) rfl ?_
                rw [HXX.out]
                exact ⟨none, 0, rfl, Os.nil _ _, dst_fin HZ.out.1 H05.out HZ.out.2 HN.out.2.1⟩
              · have hrs := SX.out.own.rs
                have k13 : ∀ W, Below w9.heap.size w9 W → Calls Tryz.prog 13 #[odv pa L.length pc ⟨L, Ki.ofD 6, KS, 6, 0, ⟨#[]⟩⟩] W fun e w' => e = .returned (.int .i64 (chkO ⟨L, Ki.ofD 6, KS, 6, 0, ⟨#[]⟩⟩)) ∧ Below W.heap.size W w' := fun W hW => refChk_any (pc := pc) ⟨L, Ki.ofD 6, KS, 6, 0, ⟨#[]⟩⟩ (hrs.below hW)
                obtain ⟨cv, hcv⟩ : ∃ r, r = chkO ⟨L, Ki.ofD 6, KS, 6, 0, ⟨#[]⟩⟩ := ⟨_, rfl⟩
                rw [← hcv] at k13
                have HCV := hide hcv
                clear hcv
                obtain ⟨bo1, cap1, at1, d0, d1, df1, -, hat1, -, HL1, hlc1, hr1, hnil1, -⟩ := SX.out.doc.cells
                have hpl := dst_place HL.out HL1.out hat hat1 HSB.out
                obtain ⟨A, hsl, hrA⟩ := slice_rd hr1 rfl hpl hat1 hlc1
                have HS : Hid (∀ W, Below w9.heap.size w9 W → (W.cell? ⟨Eb, 0, none⟩ = some (.bool true)) ∧ (W.cell? ⟨Nb, 0, none⟩ = some (.slice pa L.length pc) ∧ W.cell? ⟨Nb, 1, none⟩ = some (.int .i64 (Ki.ofD 6)) ∧ W.cell? ⟨Nb, 2, none⟩ = some (.string KS) ∧ W.cell? ⟨Nb, 3, none⟩ = some (.int .i64 6) ∧ W.cell? ⟨Nb, 4, none⟩ = some (.int .i64 0) ∧ W.cell? ⟨Nb, 5, none⟩ = some (.string ⟨#[]⟩)) ∧ (W.cell? ⟨D, 0, none⟩ = some (.slice bo1 LB.length cap1) ∧ W.cell? ⟨D, 1, none⟩ = some (.int .i64 ((at1 : Nat) : Int))) ∧ (convert 26 9 (.slice A (at1 - at0) (cap1 - at0))).run Tryz.prog W = .ok (.string (strOfNums ((LB.drop at0).take (at1 - at0)))) W) := hide (fun W hW => ⟨(SX.out.below hW).cells.1.1, (SX.out.below hW).cells.2.1, ⟨Ki.cell_stays d0 hW, Ki.cell_stays d1 hW⟩, conv_rd (cap := cap1 - at0) (hrA.below hW) (dst_len hat1 hpl)⟩)
                have hSLL : (LB.drop at0).take (at1 - at0) = l.take (l.length - qK.length) := by rw [← HL.out]; congr 1; have q1 := congrArg List.length HL1.out; have q2 := congrArg List.length HL.out; simp only [List.length_drop] at q1 q2; omega
                rw [hSLL] at HS
                clear hSLL hrA hr1 hnil1 d0 d1 df1
                obtain ⟨YL, hYL⟩ : ∃ r, r = l.take (l.length - qK.length) := ⟨_, rfl⟩
                rw [← hYL] at HS
                have HYL := hide hYL
                clear hYL
                refine wp_region_held_drew (S := fun w' => (w'.cell? ⟨Eb, 0, none⟩ = some (.bool true)) ∧ (w'.cell? ⟨Nb, 0, none⟩ = some (.slice pa L.length pc) ∧ w'.cell? ⟨Nb, 1, none⟩ = some (.int .i64 (Ki.ofD 6)) ∧ w'.cell? ⟨Nb, 2, none⟩ = some (.string KS) ∧ w'.cell? ⟨Nb, 3, none⟩ = some (.int .i64 6) ∧ w'.cell? ⟨Nb, 4, none⟩ = some (.int .i64 0) ∧ w'.cell? ⟨Nb, 5, none⟩ = some (.string ⟨#[]⟩)) ∧ (w'.cell? ⟨D, 0, none⟩ = some (.slice bo1 LB.length cap1) ∧ w'.cell? ⟨D, 1, none⟩ = some (.int .i64 ((at1 : Nat) : Int))) ∧ (convert 26 9 (.slice A (at1 - at0) (cap1 - at0))).run Tryz.prog w' = .ok (.string (strOfNums YL)) w') (by kernel_rfl) (HS.out _ (Below.refl _ _).drew) (fun hHeld => ?_)
                have b0 : Below w9.heap.size w9 w9.drew := (Below.refl _ _).drew
                obtain ⟨Wd, hWd⟩ : ∃ r, r = w9.drew := ⟨_, rfl⟩
                rw [← hWd] at b0 hHeld ⊢
                clear hWd
                refine take_op (i := 0) (d := 89) (OP := Op.load 4 (Operand.tmp 5)) (T := 4) (v := ?vogqt46) rfl rfl rfl rfl (by kernel_rfl) (by kernel_rfl) (by kernel_rfl) (fun _ _ _ h => h) (by rfl) ?hogqt46 hHeld ?rogqt46
                case hogqt46 => (intro w' hSw; (try dsimp only at hSw); go_simp <;> with_reducible rfl)
                try simp only [Act.put, List.setIfInBounds_toArray, List.set_cons_zero, List.set_cons_succ]
                refine take_op (i := 1) (d := 90) (OP := Op.unOp UnOp.not 4 (Operand.tmp 89)) (T := 4) (v := ?vogqt47) rfl rfl rfl rfl (by kernel_rfl) (by kernel_rfl) (by kernel_rfl) (fun _ _ _ h => h) (by rfl) ?hogqt47 hHeld ?rogqt47
                case hogqt47 => (intro w' hSw; (try dsimp only at hSw); go_simp <;> with_reducible rfl)
                try simp only [Act.put, List.setIfInBounds_toArray, List.set_cons_zero, List.set_cons_succ]
                refine take_op (i := 2) (d := 91) (OP := Op.move (Operand.tmp 90)) (T := 4) (v := ?vogqt48) rfl rfl rfl rfl (by kernel_rfl) (by kernel_rfl) (by kernel_rfl) (fun _ _ _ h => h) (by rfl) ?hogqt48 hHeld ?rogqt48
                case hogqt48 => (intro w' hSw; (try dsimp only at hSw); go_simp <;> with_reducible rfl)
                try simp only [Act.put, List.setIfInBounds_toArray, List.set_cons_zero, List.set_cons_succ]
                refine take_op (i := 3) (d := 92) (OP := Op.load 34 (Operand.tmp 10)) (T := 34) (v := ?vogqt49) rfl rfl rfl rfl (by kernel_rfl) (by kernel_rfl) (by kernel_rfl) (fun _ _ _ h => h) (by rfl) ?hogqt49 hHeld ?rogqt49
                case hogqt49 => (intro w' hSw; (try dsimp only at hSw); go_simp <;> with_reducible rfl)
                try simp only [Act.put, List.setIfInBounds_toArray, List.set_cons_zero, List.set_cons_succ]
                refine call_op (i := 4) (d := 93) (OP := Op.call { callee := Callee.value (Operand.func 13), args := #[Operand.tmp 92], argTypes := #[34] }) (T := 3) (f := 13) (args := #[odv pa L.length pc ⟨L, Ki.ofD 6, KS, 6, 0, ⟨#[]⟩⟩]) rfl rfl rfl rfl (by kernel_rfl) (by rfl) (by go_simp) ?_
                refine (k13 _ b0).mono ?_
                rintro e y1 ⟨rfl, dy1⟩
                have by1 := b0.trans (dy1.mono b0.size)
                have sy1 := HS.out y1 by1
                refine ⟨_, rfl, sy1, ?_⟩
                replace hHeld := sy1
                clear sy1 dy1
                try simp only [Act.put, List.setIfInBounds_toArray, List.set_cons_zero, List.set_cons_succ]
                by_cases hv0 : cv = 0
                · subst hv0
                  have hok := ok_of HCV.out.symm
                  have k15 : Calls Tryz.prog 15 #[odv pa L.length pc ⟨L, Ki.ofD 6, KS, 6, 0, ⟨#[]⟩⟩] y1 fun e w' => Made 5 y1 w' e (frO ⟨L, Ki.ofD 6, KS, 6, 0, ⟨#[]⟩⟩) := refForm_any (pc := pc) ⟨L, Ki.ofD 6, KS, 6, 0, ⟨#[]⟩⟩ ((rp_of SX.out.own (by have := HLB.out; omega)).below by1) hok (dst_i64 H8.out HDR.out)
                  obtain ⟨XL, hXL⟩ : ∃ r, r = frO ⟨L, Ki.ofD 6, KS, 6, 0, ⟨#[]⟩⟩ := ⟨_, rfl⟩
                  rw [← hXL] at k15
                  have HXL := hide hXL
                  have hx8 : U8 XL := by rw [hXL]; exact frO_u8 _
                  have hy8 : U8 YL := by rw [HYL.out]; exact u8_take H8.out _
                  clear hXL hok
                  refine take_op (i := 5) (d := 94) (OP := Op.binOp BinOp.neq 3 (Operand.tmp 93) (Operand.const (Value.int IntKind.i64 0)) 3) (T := 4) (v := (.bool false)) rfl rfl rfl rfl (by kernel_rfl) (by kernel_rfl) (by kernel_rfl) (fun _ _ _ h => h) (by rfl) ?hogqd54 hHeld ?rogqd54
                  case hogqd54 => (intro w' hSw; (try dsimp only at hSw); go_simp <;> with_reducible rfl)
                  try simp only [Act.put, List.setIfInBounds_toArray, List.set_cons_zero, List.set_cons_succ]
                  refine take_op (i := 6) (d := 95) (OP := Op.pick (Operand.tmp 91) (Operand.const (Value.bool true)) (Operand.tmp 94)) (T := 4) (v := ?vogqd55) rfl rfl rfl rfl (by kernel_rfl) (by kernel_rfl) (by kernel_rfl) (fun _ _ _ h => h) (by rfl) ?hogqd55 hHeld ?rogqd55
                  case hogqd55 => (intro w' hSw; (try dsimp only at hSw); go_simp <;> with_reducible rfl)
                  try simp only [Act.put, List.setIfInBounds_toArray, List.set_cons_zero, List.set_cons_succ]
                  refine take_op (i := 7) (d := 96) (OP := Op.move (Operand.tmp 95)) (T := 4) (v := ?vogqd56) rfl rfl rfl rfl (by kernel_rfl) (by kernel_rfl) (by kernel_rfl) (fun _ _ _ h => h) (by rfl) ?hogqd56 hHeld ?rogqd56
                  case hogqd56 => (intro w' hSw; (try dsimp only at hSw); go_simp <;> with_reducible rfl)
                  try simp only [Act.put, List.setIfInBounds_toArray, List.set_cons_zero, List.set_cons_succ]
                  refine take_op (i := 8) (d := 97) (OP := Op.load 34 (Operand.tmp 10)) (T := 34) (v := ?vogqd57) rfl rfl rfl rfl (by kernel_rfl) (by kernel_rfl) (by kernel_rfl) (fun _ _ _ h => h) (by rfl) ?hogqd57 hHeld ?rogqd57
                  case hogqd57 => (intro w' hSw; (try dsimp only at hSw); go_simp <;> with_reducible rfl)
                  try simp only [Act.put, List.setIfInBounds_toArray, List.set_cons_zero, List.set_cons_succ]
                  refine take_op (i := 11) (d := 100) (OP := Op.move (Operand.tmp 0)) (T := 54) (v := ?vogqd58) rfl rfl rfl rfl (by kernel_rfl) (by kernel_rfl) (by kernel_rfl) (fun _ _ _ h => h) (by rfl) ?hogqd58 hHeld ?rogqd58
                  case hogqd58 => (intro w' hSw; (try dsimp only at hSw); go_simp <;> with_reducible rfl)
                  try simp only [Act.put, List.setIfInBounds_toArray, List.set_cons_zero, List.set_cons_succ]
                  refine take_op (i := 12) (d := 101) (OP := Op.nilCheck (Operand.tmp 100)) (T := 0) (v := ?vogqd59) rfl rfl rfl rfl (by kernel_rfl) (by kernel_rfl) (by kernel_rfl) (fun _ _ _ h => h) (by rfl) ?hogqd59 hHeld ?rogqd59
                  case hogqd59 => (intro w' hSw; (try dsimp only at hSw); go_simp <;> with_reducible rfl)
                  try simp only [Act.put, List.setIfInBounds_toArray, List.set_cons_zero, List.set_cons_succ]
                  refine take_op (i := 13) (d := 102) (OP := Op.fieldAddr 56 (Operand.tmp 101) 0) (T := 0) (v := ?vogqd60) rfl rfl rfl rfl (by kernel_rfl) (by kernel_rfl) (by kernel_rfl) (fun _ _ _ h => h) (by rfl) ?hogqd60 hHeld ?rogqd60
                  case hogqd60 => (intro w' hSw; (try dsimp only at hSw); go_simp <;> with_reducible rfl)
                  try simp only [Act.put, List.setIfInBounds_toArray, List.set_cons_zero, List.set_cons_succ]
                  refine take_op (i := 14) (d := 103) (OP := Op.load 26 (Operand.tmp 102)) (T := 26) (v := ?vogqd61) rfl rfl rfl rfl (by kernel_rfl) (by kernel_rfl) (by kernel_rfl) (fun _ _ _ h => h) (by rfl) ?hogqd61 hHeld ?rogqd61
                  case hogqd61 => (intro w' hSw; (try dsimp only at hSw); go_simp <;> with_reducible rfl)
                  try simp only [Act.put, List.setIfInBounds_toArray, List.set_cons_zero, List.set_cons_succ]
                  refine take_op (i := 15) (d := 104) (OP := Op.move (Operand.tmp 4)) (T := 3) (v := ?vogqd62) rfl rfl rfl rfl (by kernel_rfl) (by kernel_rfl) (by kernel_rfl) (fun _ _ _ h => h) (by rfl) ?hogqd62 hHeld ?rogqd62
                  case hogqd62 => (intro w' hSw; (try dsimp only at hSw); go_simp <;> with_reducible rfl)
                  try simp only [Act.put, List.setIfInBounds_toArray, List.set_cons_zero, List.set_cons_succ]
                  refine take_op (i := 16) (d := 105) (OP := Op.move (Operand.tmp 0)) (T := 54) (v := ?vogqd63) rfl rfl rfl rfl (by kernel_rfl) (by kernel_rfl) (by kernel_rfl) (fun _ _ _ h => h) (by rfl) ?hogqd63 hHeld ?rogqd63
                  case hogqd63 => (intro w' hSw; (try dsimp only at hSw); go_simp <;> with_reducible rfl)
                  try simp only [Act.put, List.setIfInBounds_toArray, List.set_cons_zero, List.set_cons_succ]
                  refine take_op (i := 17) (d := 106) (OP := Op.nilCheck (Operand.tmp 105)) (T := 0) (v := ?vogqd64) rfl rfl rfl rfl (by kernel_rfl) (by kernel_rfl) (by kernel_rfl) (fun _ _ _ h => h) (by rfl) ?hogqd64 hHeld ?rogqd64
                  case hogqd64 => (intro w' hSw; (try dsimp only at hSw); go_simp <;> with_reducible rfl)
                  try simp only [Act.put, List.setIfInBounds_toArray, List.set_cons_zero, List.set_cons_succ]
                  refine take_op (i := 18) (d := 107) (OP := Op.fieldAddr 56 (Operand.tmp 106) 1) (T := 0) (v := ?vogqd65) rfl rfl rfl rfl (by kernel_rfl) (by kernel_rfl) (by kernel_rfl) (fun _ _ _ h => h) (by rfl) ?hogqd65 hHeld ?rogqd65
                  case hogqd65 => (intro w' hSw; (try dsimp only at hSw); go_simp <;> with_reducible rfl)
                  try simp only [Act.put, List.setIfInBounds_toArray, List.set_cons_zero, List.set_cons_succ]
                  refine take_op (i := 19) (d := 108) (OP := Op.load 3 (Operand.tmp 107)) (T := 3) (v := ?vogqd66) rfl rfl rfl rfl (by kernel_rfl) (by kernel_rfl) (by kernel_rfl) (fun _ _ _ h => h) (by rfl) ?hogqd66 hHeld ?rogqd66
                  case hogqd66 => (intro w' hSw; (try dsimp only at hSw); go_simp <;> with_reducible rfl)
                  try simp only [Act.put, List.setIfInBounds_toArray, List.set_cons_zero, List.set_cons_succ]
                  refine take_op (i := 20) (d := 109) (OP := Op.slice 26 (Operand.tmp 103) (some (Operand.tmp 104)) (some (Operand.tmp 108)) none) (T := 26) (v := (.slice A (at1 - at0) (cap1 - at0))) rfl rfl rfl rfl (by kernel_rfl) (by kernel_rfl) (by kernel_rfl) (fun _ _ _ h => h) (by rfl) ?hogqd67 hHeld ?rogqd67
                  case hogqd67 => (intro w' hSw; (try dsimp only at hSw); exact exec_slice2 hsl rfl rfl rfl)
                  try simp only [Act.put, List.setIfInBounds_toArray, List.set_cons_zero, List.set_cons_succ]
                  refine take_op (i := 21) (d := 110) (OP := Op.convert 26 9 (Operand.tmp 109)) (T := 9) (v := ?vogqd68) rfl rfl rfl rfl (by kernel_rfl) (by kernel_rfl) (by kernel_rfl) (fun _ _ _ h => h) (by rfl) ?hogqd68 hHeld ?rogqd68
                  case hogqd68 => (intro w' hSw; (try dsimp only at hSw); go_simp <;> with_reducible rfl)
                  try simp only [Act.put, List.setIfInBounds_toArray, List.set_cons_zero, List.set_cons_succ]
                  refine call_op (i := 9) (d := 98) (OP := Op.call { callee := Callee.value (Operand.func 15), args := #[Operand.tmp 97], argTypes := #[34] }) (T := 26) (f := 15) (args := #[odv pa L.length pc ⟨L, Ki.ofD 6, KS, 6, 0, ⟨#[]⟩⟩]) rfl rfl rfl rfl (by kernel_rfl) (by rfl) (by go_simp) ?_
                  refine k15.mono ?_
                  rintro e y2 ⟨mA, mc, rfl, mO, mn, dy2⟩
                  have by2 := by1.trans (dy2.mono by1.size)
                  have sy2 := HS.out y2 by2
                  have HMM : ∀ W, Below y2.heap.size y2 W → (convert 26 9 (.slice mA XL.length mc)).run Tryz.prog W = .ok (.string (strOfNums XL)) W := fun W hW => conv_rd (cap := mc) (mO.rd.below hW) rfl
                  have sy3 := HMM y2 (Below.refl _ _)
                  refine ⟨_, rfl, sy2, ?_⟩
                  refine wpAnyH_mono (S' := fun w' => ((w'.cell? ⟨Eb, 0, none⟩ = some (.bool true)) ∧ (w'.cell? ⟨Nb, 0, none⟩ = some (.slice pa L.length pc) ∧ w'.cell? ⟨Nb, 1, none⟩ = some (.int .i64 (Ki.ofD 6)) ∧ w'.cell? ⟨Nb, 2, none⟩ = some (.string KS) ∧ w'.cell? ⟨Nb, 3, none⟩ = some (.int .i64 6) ∧ w'.cell? ⟨Nb, 4, none⟩ = some (.int .i64 0) ∧ w'.cell? ⟨Nb, 5, none⟩ = some (.string ⟨#[]⟩)) ∧ (w'.cell? ⟨D, 0, none⟩ = some (.slice bo1 LB.length cap1) ∧ w'.cell? ⟨D, 1, none⟩ = some (.int .i64 ((at1 : Nat) : Int))) ∧ (convert 26 9 (.slice A (at1 - at0) (cap1 - at0))).run Tryz.prog w' = .ok (.string (strOfNums YL)) w') ∧ (convert 26 9 (.slice mA XL.length mc)).run Tryz.prog w' = .ok (.string (strOfNums XL)) w') (fun _ h => h.1) ?_
                  replace hHeld := And.intro sy2 sy3
                  clear sy2 sy3 dy2 mO mn HMM k15 k13
                  try simp only [Act.put, List.setIfInBounds_toArray, List.set_cons_zero, List.set_cons_succ]
                  refine take_op (i := 10) (d := 99) (OP := Op.convert 26 9 (Operand.tmp 98)) (T := 9) (v := ?vogqd69) rfl rfl rfl rfl (by kernel_rfl) (by kernel_rfl) (by kernel_rfl) (fun _ _ _ h => h) (by rfl) ?hogqd69 hHeld ?rogqd69
                  case hogqd69 => (intro w' hSw; (try dsimp only at hSw); go_simp <;> with_reducible rfl)
                  try simp only [Act.put, List.setIfInBounds_toArray, List.set_cons_zero, List.set_cons_succ]
                  by_cases hxy : XL = YL
                  · subst hxy
                    refine take_op (i := 22) (d := 111) (OP := Op.binOp BinOp.neq 9 (Operand.tmp 99) (Operand.tmp 110) 9) (T := 4) (v := (.bool false)) rfl rfl rfl rfl (by kernel_rfl) (by kernel_rfl) (by kernel_rfl) (fun _ _ _ h => h) (by rfl) ?hogqe70 hHeld ?rogqe70
                    case hogqe70 => (intro w' hSw; exact exec_ne9 rfl rfl (by simp))
                    try simp only [Act.put, List.setIfInBounds_toArray, List.set_cons_zero, List.set_cons_succ]
                    have HXX : Hid (dtake l = (⟨L, Ki.ofD 6, KS, 6, 0, ⟨#[]⟩⟩, 0, qK)) := hide (by unfold dtake; rw [HDR.out]; exact if_pos ⟨rfl, HCV.out.symm, HXL.out.symm.trans HYL.out⟩)
                    refine take_op (i := 23) (d := 112) (OP := Op.pick (Operand.tmp 96) (Operand.const (Value.bool true)) (Operand.tmp 111)) (T := 4) (v := ?vogqe71) rfl rfl rfl rfl (by kernel_rfl) (by kernel_rfl) (by kernel_rfl) (fun _ _ _ h => h) (by rfl) ?hogqe71 hHeld ?rogqe71
                    case hogqe71 => (intro w' hSw; (try dsimp only at hSw); go_simp <;> with_reducible rfl)
                    try simp only [Act.put, List.setIfInBounds_toArray, List.set_cons_zero, List.set_cons_succ]
                    refine wpAnyH_done (by kernel_rfl) ?_ _
                    have sx := SX.out.below by2
                    clear SX
                    have SX := hide sx
                    clear sx
                    have hx2 : y2.heap[w.heap.size]? = some (.cells (oc6 (.slice none 0 0) 0 ⟨#[]⟩ 0 0 ⟨#[]⟩) 34 (0, 0)) := (SX.out.only.block _ (Nat.lt_of_lt_of_le HN.out.2.2.1 HN.out.2.2.2) (by have := HN.out.2.1; omega)).trans HN.out.1
                    obtain ⟨⟨u0, u1, u2, u3, u4, u5⟩, e0, e1, e2, e3, e4, e5⟩ := blk6 hx2
                    have HX2 := hide hx2
                    clear hx2
                    go_wp2
                    refine ret_row_tmp w.heap.size (oc6 (.slice pa L.length pc) (Ki.ofD 6) KS 6 0 ⟨#[]⟩).toList rfl rfl rfl Tryz.underlying34 rfl Tryz.info34z (set6 HX2.out) rfl ?_
                    rw [HXX.out]
                    exact ⟨pa, pc, rfl, dst_own SX.out HN.out.2.1, dst_fin SX.out.doc H05.out SX.out.only HN.out.2.1⟩
                  · have hne := str_ne hx8 hy8 hxy
                    refine take_op (i := 22) (d := 111) (OP := Op.binOp BinOp.neq 9 (Operand.tmp 99) (Operand.tmp 110) 9) (T := 4) (v := (.bool true)) rfl rfl rfl rfl (by kernel_rfl) (by kernel_rfl) (by kernel_rfl) (fun _ _ _ h => h) (by rfl) ?hogqn72 hHeld ?rogqn72
                    case hogqn72 => (intro w' hSw; exact exec_ne9 rfl rfl (by rw [bne, hne]; rfl))
                    try simp only [Act.put, List.setIfInBounds_toArray, List.set_cons_zero, List.set_cons_succ]
                    have HXX : Hid (dtake l = (odZ, 4, l)) := hide (by unfold dtake; rw [HDR.out]; exact if_neg (fun h => hxy (HXL.out.trans (h.2.2.trans HYL.out.symm))))
                    refine take_op (i := 23) (d := 112) (OP := Op.pick (Operand.tmp 96) (Operand.const (Value.bool true)) (Operand.tmp 111)) (T := 4) (v := ?vogqn73) rfl rfl rfl rfl (by kernel_rfl) (by kernel_rfl) (by kernel_rfl) (fun _ _ _ h => h) (by rfl) ?hogqn73 hHeld ?rogqn73
                    case hogqn73 => (intro w' hSw; (try dsimp only at hSw); go_simp <;> with_reducible rfl)
                    try simp only [Act.put, List.setIfInBounds_toArray, List.set_cons_zero, List.set_cons_succ]
                    refine wpAnyH_done (by kernel_rfl) ?_ _
                    have sx := SX.out.below by2
                    clear SX
                    have SX := hide sx
                    clear sx
                    obtain ⟨bo2, cap2, at2, d0, d1, df1, -⟩ := SX.out.doc.cells
                    go_upto_region 22 with fail
                    obtain ⟨wz, hwz⟩ : ∃ r, r = y2.setCell ⟨D, 1, none⟩ (.int .i64 (at0 : Nat)) := ⟨_, rfl⟩
                    rw [← hwz]
                    have HZ := hide (dst_err SX.out HL.out hat hwz)
                    clear hwz
                    have hz2 : wz.heap[w.heap.size]? = some (.cells (oc6 (.slice none 0 0) 0 ⟨#[]⟩ 0 0 ⟨#[]⟩) 34 (0, 0)) := (HZ.out.2.block _ (Nat.lt_of_lt_of_le HN.out.2.2.1 HN.out.2.2.2) (by have := HN.out.2.1; omega)).trans HN.out.1
                    obtain ⟨⟨u0, u1, u2, u3, u4, u5⟩, e0, e1, e2, e3, e4, e5⟩ := blk6 hz2
                    have HZ2 := hide hz2
                    clear hz2
                    go_wp2
                    refine ret_row_tmp w.heap.size (oc6 (.slice none 0 0) 0 ⟨#[]⟩ 0 0 ⟨#[]⟩).toList rfl rfl rfl Tryz.underlying34 rfl Tryz.info34z (set6 HZ2.out) rfl ?_
                    rw [HXX.out]
                    exact ⟨none, 0, rfl, Os.nil _ _, dst_fin HZ.out.1 H05.out HZ.out.2 HN.out.2.1⟩
                · have hv1 : (cv != 0) = true := by simpa using hv0
                  have HXX : Hid (dtake l = (odZ, 4, l)) := hide (by unfold dtake; rw [HDR.out]; exact if_neg (fun h => hv0 (HCV.out.trans h.2.1)))
                  refine take_op (i := 5) (d := 94) (OP := Op.binOp BinOp.neq 3 (Operand.tmp 93) (Operand.const (Value.int IntKind.i64 0)) 3) (T := 4) (v := (.bool true)) rfl rfl rfl rfl (by kernel_rfl) (by kernel_rfl) (by kernel_rfl) (fun _ _ _ h => h) (by rfl) ?hogqc50 hHeld ?rogqc50
                  case hogqc50 => (intro w' hSw; (try dsimp only at hSw); go_simp <;> with_reducible rfl)
                  try simp only [Act.put, List.setIfInBounds_toArray, List.set_cons_zero, List.set_cons_succ]
                  refine take_op (i := 6) (d := 95) (OP := Op.pick (Operand.tmp 91) (Operand.const (Value.bool true)) (Operand.tmp 94)) (T := 4) (v := ?vogqc51) rfl rfl rfl rfl (by kernel_rfl) (by kernel_rfl) (by kernel_rfl) (fun _ _ _ h => h) (by rfl) ?hogqc51 hHeld ?rogqc51
                  case hogqc51 => (intro w' hSw; (try dsimp only at hSw); go_simp <;> with_reducible rfl)
                  try simp only [Act.put, List.setIfInBounds_toArray, List.set_cons_zero, List.set_cons_succ]
                  refine take_op (i := 7) (d := 96) (OP := Op.move (Operand.tmp 95)) (T := 4) (v := ?vogqc52) rfl rfl rfl rfl (by kernel_rfl) (by kernel_rfl) (by kernel_rfl) (fun _ _ _ h => h) (by rfl) ?hogqc52 hHeld ?rogqc52
                  case hogqc52 => (intro w' hSw; (try dsimp only at hSw); go_simp <;> with_reducible rfl)
                  try simp only [Act.put, List.setIfInBounds_toArray, List.set_cons_zero, List.set_cons_succ]
                  refine pass_op (i := 8) (d := 97) rfl rfl (by kernel_rfl) (by kernel_rfl) (by kernel_rfl) (fun _ _ _ h => h) (by rfl) hHeld ?_
                  try simp only [Act.put, List.setIfInBounds_toArray, List.set_cons_zero, List.set_cons_succ]
                  refine pass_op (i := 9) (d := 98) rfl rfl (by kernel_rfl) (by kernel_rfl) (by kernel_rfl) (fun _ _ _ h => h) (by rfl) hHeld ?_
                  try simp only [Act.put, List.setIfInBounds_toArray, List.set_cons_zero, List.set_cons_succ]
                  refine pass_op (i := 10) (d := 99) rfl rfl (by kernel_rfl) (by kernel_rfl) (by kernel_rfl) (fun _ _ _ h => h) (by rfl) hHeld ?_
                  try simp only [Act.put, List.setIfInBounds_toArray, List.set_cons_zero, List.set_cons_succ]
                  refine pass_op (i := 11) (d := 100) rfl rfl (by kernel_rfl) (by kernel_rfl) (by kernel_rfl) (fun _ _ _ h => h) (by rfl) hHeld ?_
                  try simp only [Act.put, List.setIfInBounds_toArray, List.set_cons_zero, List.set_cons_succ]
                  refine pass_op (i := 12) (d := 101) rfl rfl (by kernel_rfl) (by kernel_rfl) (by kernel_rfl) (fun _ _ _ h => h) (by rfl) hHeld ?_
                  try simp only [Act.put, List.setIfInBounds_toArray, List.set_cons_zero, List.set_cons_succ]
                  refine pass_op (i := 13) (d := 102) rfl rfl (by kernel_rfl) (by kernel_rfl) (by kernel_rfl) (fun _ _ _ h => h) (by rfl) hHeld ?_
                  try simp only [Act.put, List.setIfInBounds_toArray, List.set_cons_zero, List.set_cons_succ]
                  refine pass_op (i := 14) (d := 103) rfl rfl (by kernel_rfl) (by kernel_rfl) (by kernel_rfl) (fun _ _ _ h => h) (by rfl) hHeld ?_
                  try simp only [Act.put, List.setIfInBounds_toArray, List.set_cons_zero, List.set_cons_succ]
                  refine pass_op (i := 15) (d := 104) rfl rfl (by kernel_rfl) (by kernel_rfl) (by kernel_rfl) (fun _ _ _ h => h) (by rfl) hHeld ?_
                  try simp only [Act.put, List.setIfInBounds_toArray, List.set_cons_zero, List.set_cons_succ]
                  refine pass_op (i := 16) (d := 105) rfl rfl (by kernel_rfl) (by kernel_rfl) (by kernel_rfl) (fun _ _ _ h => h) (by rfl) hHeld ?_
                  try simp only [Act.put, List.setIfInBounds_toArray, List.set_cons_zero, List.set_cons_succ]
                  refine pass_op (i := 17) (d := 106) rfl rfl (by kernel_rfl) (by kernel_rfl) (by kernel_rfl) (fun _ _ _ h => h) (by rfl) hHeld ?_
                  try simp only [Act.put, List.setIfInBounds_toArray, List.set_cons_zero, List.set_cons_succ]
                  refine pass_op (i := 18) (d := 107) rfl rfl (by kernel_rfl) (by kernel_rfl) (by kernel_rfl) (fun _ _ _ h => h) (by rfl) hHeld ?_
                  try simp only [Act.put, List.setIfInBounds_toArray, List.set_cons_zero, List.set_cons_succ]
                  refine pass_op (i := 19) (d := 108) rfl rfl (by kernel_rfl) (by kernel_rfl) (by kernel_rfl) (fun _ _ _ h => h) (by rfl) hHeld ?_
                  try simp only [Act.put, List.setIfInBounds_toArray, List.set_cons_zero, List.set_cons_succ]
                  refine pass_op (i := 20) (d := 109) rfl rfl (by kernel_rfl) (by kernel_rfl) (by kernel_rfl) (fun _ _ _ h => h) (by rfl) hHeld ?_
                  try simp only [Act.put, List.setIfInBounds_toArray, List.set_cons_zero, List.set_cons_succ]
                  refine pass_op (i := 21) (d := 110) rfl rfl (by kernel_rfl) (by kernel_rfl) (by kernel_rfl) (fun _ _ _ h => h) (by rfl) hHeld ?_
                  try simp only [Act.put, List.setIfInBounds_toArray, List.set_cons_zero, List.set_cons_succ]
                  refine pass_op (i := 22) (d := 111) rfl rfl (by kernel_rfl) (by kernel_rfl) (by kernel_rfl) (fun _ _ _ h => h) (by rfl) hHeld ?_
                  try simp only [Act.put, List.setIfInBounds_toArray, List.set_cons_zero, List.set_cons_succ]
                  refine take_op (i := 23) (d := 112) (OP := Op.pick (Operand.tmp 96) (Operand.const (Value.bool true)) (Operand.tmp 111)) (T := 4) (v := ?vogqc53) rfl rfl rfl rfl (by kernel_rfl) (by kernel_rfl) (by kernel_rfl) (fun _ _ _ h => h) (by rfl) ?hogqc53 hHeld ?rogqc53
                  case hogqc53 => (intro w' hSw; (try dsimp only at hSw); go_simp <;> with_reducible rfl)
                  try simp only [Act.put, List.setIfInBounds_toArray, List.set_cons_zero, List.set_cons_succ]
                  refine wpAnyH_done (by kernel_rfl) ?_ _
                  have sx := SX.out.below by1
                  clear SX
                  have SX := hide sx
                  clear sx
                  obtain ⟨bo2, cap2, at2, d0, d1, df1, -⟩ := SX.out.doc.cells
                  go_upto_region 22 with fail
                  obtain ⟨wz, hwz⟩ : ∃ r, r = y1.setCell ⟨D, 1, none⟩ (.int .i64 (at0 : Nat)) := ⟨_, rfl⟩
                  rw [← hwz]
                  have HZ := hide (dst_err SX.out HL.out hat hwz)
                  clear hwz
                  have hz2 : wz.heap[w.heap.size]? = some (.cells (oc6 (.slice none 0 0) 0 ⟨#[]⟩ 0 0 ⟨#[]⟩) 34 (0, 0)) := (HZ.out.2.block _ (Nat.lt_of_lt_of_le HN.out.2.2.1 HN.out.2.2.2) (by have := HN.out.2.1; omega)).trans HN.out.1
                  obtain ⟨⟨u0, u1, u2, u3, u4, u5⟩, e0, e1, e2, e3, e4, e5⟩ := blk6 hz2
                  have HZ2 := hide hz2
                  clear hz2
                  go_wp2
                  refine ret_row_tmp w.heap.size (oc6 (.slice none 0 0) 0 ⟨#[]⟩ 0 0 ⟨#[]⟩).toList rfl rfl rfl Tryz.underlying34 rfl Tryz.info34z (set6 HZ2.out) rfl ?_
                  rw [HXX.out]
                  exact ⟨none, 0, rfl, Os.nil _ _, dst_fin HZ.out.1 H05.out HZ.out.2 HN.out.2.1⟩
            · have e6 : (dv == 6) = false := by simpa using h6
              have kS := dtext_any D Eb bK LB qK w9 S9.out.doc S9.out.okc (by have := S9.out.lts; omega) (by have := S9.out.lts; omega)
              obtain ⟨M, hM⟩ : ∃ r, r = dtxt bK qK := ⟨_, rfl⟩
              have h4 : drd4 dv bK qK = ((0, M.1), M.2.1, M.2.2) := by unfold drd4; rw [if_neg h1, if_neg h6, hM]
              rw [h4] at HDR
              rw [← hM] at kS
              clear h4 hM
              obtain ⟨TT, bT, mq⟩ := M
              dsimp only at kS HDR
              go_upto_region 20 with (go_at_call 72; refine kS.mono ?_; rintro e w10 ⟨rfl, hd10, he10, ho10⟩; have s10 := S9.out.call hd10 he10 ho10; clear hd10 he10 ho10 kS; clear okc okf x0 x1 x2 x3 x4 x5 f0 f1 f2 f3 f4 f5; obtain ⟨⟨okc, okf⟩, ⟨x0, x1, x2, x3, x4, x5⟩, f0, f1, f2, f3, f4, f5⟩ := s10.cells; have S10 := hide s10; clear s10)
              obtain ⟨w12, hw12⟩ : ∃ r, r = w10.setCell ⟨Nb, 5, none⟩ (.string TT) := ⟨_, rfl⟩
              rw [← hw12]
              have sx := S10.out.set 5 (.string TT) (.slice pa L.length pc) (Ki.ofD dv) KS dv 0 TT L S10.out.own rfl
              rw [← hw12] at sx
              clear hw12 S10 S9
              clear okc okf x0 x1 x2 x3 x4 x5 f0 f1 f2 f3 f4 f5
              have SX := hide sx
              clear sx
              have HSB : Hid (∃ k, mq = l.drop k) := hide (by have := HSB0.out; rw [HDR.out] at this; exact this)

              have hB : (bT) = false ∨ (bT) = true := by cases (bT); exact .inl rfl; exact .inr rfl
              obtain ⟨BB, hBB⟩ : ∃ r, r = (bT) := ⟨_, rfl⟩
              rw [← hBB] at SX HDR hB
              clear hBB
              rcases hB with rfl | rfl
              · have HXX : Hid (dtake l = (odZ, 4, l)) := hide (by unfold dtake; rw [HDR.out]; exact if_neg (fun h => by cases h.1))
                refine wp_region_held_drew (S := fun w' => w'.cell? ⟨Eb, 0, none⟩ = some (.bool false)) (by kernel_rfl) (SX.out.below (Below.refl _ _).drew).cells.1.1 (fun hHeld => ?_)
                have sx := SX.out.below (Below.refl _ _).drew
                obtain ⟨Wd, hWd⟩ : ∃ r, r = w12.drew := ⟨_, rfl⟩
                rw [← hWd] at sx hHeld ⊢
                clear hWd SX
                have SX := hide sx
                clear sx
                obtain ⟨bo1, cap1, at1, d0, d1, df1, -⟩ := SX.out.doc.cells
                refine take_op (i := 0) (d := 89) (OP := Op.load 4 (Operand.tmp 5)) (T := 4) (v := ?vogsf74) rfl rfl rfl rfl (by kernel_rfl) (by kernel_rfl) (by kernel_rfl) (fun _ _ _ h => h) (by rfl) ?hogsf74 hHeld ?rogsf74
                case hogsf74 => (intro w' hSw; (try dsimp only at hSw); go_simp <;> with_reducible rfl)
                try simp only [Act.put, List.setIfInBounds_toArray, List.set_cons_zero, List.set_cons_succ]
                refine take_op (i := 1) (d := 90) (OP := Op.unOp UnOp.not 4 (Operand.tmp 89)) (T := 4) (v := ?vogsf75) rfl rfl rfl rfl (by kernel_rfl) (by kernel_rfl) (by kernel_rfl) (fun _ _ _ h => h) (by rfl) ?hogsf75 hHeld ?rogsf75
                case hogsf75 => (intro w' hSw; (try dsimp only at hSw); go_simp <;> with_reducible rfl)
                try simp only [Act.put, List.setIfInBounds_toArray, List.set_cons_zero, List.set_cons_succ]
                refine take_op (i := 2) (d := 91) (OP := Op.move (Operand.tmp 90)) (T := 4) (v := ?vogsf76) rfl rfl rfl rfl (by kernel_rfl) (by kernel_rfl) (by kernel_rfl) (fun _ _ _ h => h) (by rfl) ?hogsf76 hHeld ?rogsf76
                case hogsf76 => (intro w' hSw; (try dsimp only at hSw); go_simp <;> with_reducible rfl)
                try simp only [Act.put, List.setIfInBounds_toArray, List.set_cons_zero, List.set_cons_succ]
                refine pass_op (i := 3) (d := 92) rfl rfl (by kernel_rfl) (by kernel_rfl) (by kernel_rfl) (fun _ _ _ h => h) (by rfl) hHeld ?_
                try simp only [Act.put, List.setIfInBounds_toArray, List.set_cons_zero, List.set_cons_succ]
                refine pass_op (i := 4) (d := 93) rfl rfl (by kernel_rfl) (by kernel_rfl) (by kernel_rfl) (fun _ _ _ h => h) (by rfl) hHeld ?_
                try simp only [Act.put, List.setIfInBounds_toArray, List.set_cons_zero, List.set_cons_succ]
                refine pass_op (i := 5) (d := 94) rfl rfl (by kernel_rfl) (by kernel_rfl) (by kernel_rfl) (fun _ _ _ h => h) (by rfl) hHeld ?_
                try simp only [Act.put, List.setIfInBounds_toArray, List.set_cons_zero, List.set_cons_succ]
                refine take_op (i := 6) (d := 95) (OP := Op.pick (Operand.tmp 91) (Operand.const (Value.bool true)) (Operand.tmp 94)) (T := 4) (v := ?vogsf77) rfl rfl rfl rfl (by kernel_rfl) (by kernel_rfl) (by kernel_rfl) (fun _ _ _ h => h) (by rfl) ?hogsf77 hHeld ?rogsf77
                case hogsf77 => (intro w' hSw; (try dsimp only at hSw); go_simp <;> with_reducible rfl)
                try simp only [Act.put, List.setIfInBounds_toArray, List.set_cons_zero, List.set_cons_succ]
                refine take_op (i := 7) (d := 96) (OP := Op.move (Operand.tmp 95)) (T := 4) (v := ?vogsf78) rfl rfl rfl rfl (by kernel_rfl) (by kernel_rfl) (by kernel_rfl) (fun _ _ _ h => h) (by rfl) ?hogsf78 hHeld ?rogsf78
                case hogsf78 => (intro w' hSw; (try dsimp only at hSw); go_simp <;> with_reducible rfl)
                try simp only [Act.put, List.setIfInBounds_toArray, List.set_cons_zero, List.set_cons_succ]
                refine pass_op (i := 8) (d := 97) rfl rfl (by kernel_rfl) (by kernel_rfl) (by kernel_rfl) (fun _ _ _ h => h) (by rfl) hHeld ?_
                try simp only [Act.put, List.setIfInBounds_toArray, List.set_cons_zero, List.set_cons_succ]
                refine pass_op (i := 9) (d := 98) rfl rfl (by kernel_rfl) (by kernel_rfl) (by kernel_rfl) (fun _ _ _ h => h) (by rfl) hHeld ?_
                try simp only [Act.put, List.setIfInBounds_toArray, List.set_cons_zero, List.set_cons_succ]
                refine pass_op (i := 10) (d := 99) rfl rfl (by kernel_rfl) (by kernel_rfl) (by kernel_rfl) (fun _ _ _ h => h) (by rfl) hHeld ?_
                try simp only [Act.put, List.setIfInBounds_toArray, List.set_cons_zero, List.set_cons_succ]
                refine pass_op (i := 11) (d := 100) rfl rfl (by kernel_rfl) (by kernel_rfl) (by kernel_rfl) (fun _ _ _ h => h) (by rfl) hHeld ?_
                try simp only [Act.put, List.setIfInBounds_toArray, List.set_cons_zero, List.set_cons_succ]
                refine pass_op (i := 12) (d := 101) rfl rfl (by kernel_rfl) (by kernel_rfl) (by kernel_rfl) (fun _ _ _ h => h) (by rfl) hHeld ?_
                try simp only [Act.put, List.setIfInBounds_toArray, List.set_cons_zero, List.set_cons_succ]
                refine pass_op (i := 13) (d := 102) rfl rfl (by kernel_rfl) (by kernel_rfl) (by kernel_rfl) (fun _ _ _ h => h) (by rfl) hHeld ?_
                try simp only [Act.put, List.setIfInBounds_toArray, List.set_cons_zero, List.set_cons_succ]
                refine pass_op (i := 14) (d := 103) rfl rfl (by kernel_rfl) (by kernel_rfl) (by kernel_rfl) (fun _ _ _ h => h) (by rfl) hHeld ?_
                try simp only [Act.put, List.setIfInBounds_toArray, List.set_cons_zero, List.set_cons_succ]
                refine pass_op (i := 15) (d := 104) rfl rfl (by kernel_rfl) (by kernel_rfl) (by kernel_rfl) (fun _ _ _ h => h) (by rfl) hHeld ?_
                try simp only [Act.put, List.setIfInBounds_toArray, List.set_cons_zero, List.set_cons_succ]
                refine pass_op (i := 16) (d := 105) rfl rfl (by kernel_rfl) (by kernel_rfl) (by kernel_rfl) (fun _ _ _ h => h) (by rfl) hHeld ?_
                try simp only [Act.put, List.setIfInBounds_toArray, List.set_cons_zero, List.set_cons_succ]
                refine pass_op (i := 17) (d := 106) rfl rfl (by kernel_rfl) (by kernel_rfl) (by kernel_rfl) (fun _ _ _ h => h) (by rfl) hHeld ?_
                try simp only [Act.put, List.setIfInBounds_toArray, List.set_cons_zero, List.set_cons_succ]
                refine pass_op (i := 18) (d := 107) rfl rfl (by kernel_rfl) (by kernel_rfl) (by kernel_rfl) (fun _ _ _ h => h) (by rfl) hHeld ?_
                try simp only [Act.put, List.setIfInBounds_toArray, List.set_cons_zero, List.set_cons_succ]
                refine pass_op (i := 19) (d := 108) rfl rfl (by kernel_rfl) (by kernel_rfl) (by kernel_rfl) (fun _ _ _ h => h) (by rfl) hHeld ?_
                try simp only [Act.put, List.setIfInBounds_toArray, List.set_cons_zero, List.set_cons_succ]
                refine pass_op (i := 20) (d := 109) rfl rfl (by kernel_rfl) (by kernel_rfl) (by kernel_rfl) (fun _ _ _ h => h) (by rfl) hHeld ?_
                try simp only [Act.put, List.setIfInBounds_toArray, List.set_cons_zero, List.set_cons_succ]
                refine pass_op (i := 21) (d := 110) rfl rfl (by kernel_rfl) (by kernel_rfl) (by kernel_rfl) (fun _ _ _ h => h) (by rfl) hHeld ?_
                try simp only [Act.put, List.setIfInBounds_toArray, List.set_cons_zero, List.set_cons_succ]
                refine pass_op (i := 22) (d := 111) rfl rfl (by kernel_rfl) (by kernel_rfl) (by kernel_rfl) (fun _ _ _ h => h) (by rfl) hHeld ?_
                try simp only [Act.put, List.setIfInBounds_toArray, List.set_cons_zero, List.set_cons_succ]
                refine take_op (i := 23) (d := 112) (OP := Op.pick (Operand.tmp 96) (Operand.const (Value.bool true)) (Operand.tmp 111)) (T := 4) (v := ?vogsf79) rfl rfl rfl rfl (by kernel_rfl) (by kernel_rfl) (by kernel_rfl) (fun _ _ _ h => h) (by rfl) ?hogsf79 hHeld ?rogsf79
                case hogsf79 => (intro w' hSw; (try dsimp only at hSw); go_simp <;> with_reducible rfl)
                try simp only [Act.put, List.setIfInBounds_toArray, List.set_cons_zero, List.set_cons_succ]
                refine wpAnyH_done (by kernel_rfl) ?_ _
                go_upto_region 22 with fail
                obtain ⟨wz, hwz⟩ : ∃ r, r = Wd.setCell ⟨D, 1, none⟩ (.int .i64 (at0 : Nat)) := ⟨_, rfl⟩
                rw [← hwz]
                have HZ := hide (dst_err SX.out HL.out hat hwz)
                clear hwz
                have hz2 : wz.heap[w.heap.size]? = some (.cells (oc6 (.slice none 0 0) 0 ⟨#[]⟩ 0 0 ⟨#[]⟩) 34 (0, 0)) := (HZ.out.2.block _ (Nat.lt_of_lt_of_le HN.out.2.2.1 HN.out.2.2.2) (by have := HN.out.2.1; omega)).trans HN.out.1
                obtain ⟨⟨u0, u1, u2, u3, u4, u5⟩, e0, e1, e2, e3, e4, e5⟩ := blk6 hz2
                have HZ2 := hide hz2
                clear hz2
                go_wp2
                refine ret_row_tmp w.heap.size (oc6 (.slice none 0 0) 0 ⟨#[]⟩ 0 0 ⟨#[]⟩).toList rfl rfl rfl Tryz.underlying34 rfl Tryz.info34z (set6 HZ2.out) rfl ?_
                rw [HXX.out]
                exact ⟨none, 0, rfl, Os.nil _ _, dst_fin HZ.out.1 H05.out HZ.out.2 HN.out.2.1⟩
              · have hrs := SX.out.own.rs
                have k13 : ∀ W, Below w12.heap.size w12 W → Calls Tryz.prog 13 #[odv pa L.length pc ⟨L, Ki.ofD dv, KS, dv, 0, TT⟩] W fun e w' => e = .returned (.int .i64 (chkO ⟨L, Ki.ofD dv, KS, dv, 0, TT⟩)) ∧ Below W.heap.size W w' := fun W hW => refChk_any (pc := pc) ⟨L, Ki.ofD dv, KS, dv, 0, TT⟩ (hrs.below hW)
                obtain ⟨cv, hcv⟩ : ∃ r, r = chkO ⟨L, Ki.ofD dv, KS, dv, 0, TT⟩ := ⟨_, rfl⟩
                rw [← hcv] at k13
                have HCV := hide hcv
                clear hcv
                obtain ⟨bo1, cap1, at1, d0, d1, df1, -, hat1, -, HL1, hlc1, hr1, hnil1, -⟩ := SX.out.doc.cells
                have hpl := dst_place HL.out HL1.out hat hat1 HSB.out
                obtain ⟨A, hsl, hrA⟩ := slice_rd hr1 rfl hpl hat1 hlc1
                have HS : Hid (∀ W, Below w12.heap.size w12 W → (W.cell? ⟨Eb, 0, none⟩ = some (.bool true)) ∧ (W.cell? ⟨Nb, 0, none⟩ = some (.slice pa L.length pc) ∧ W.cell? ⟨Nb, 1, none⟩ = some (.int .i64 (Ki.ofD dv)) ∧ W.cell? ⟨Nb, 2, none⟩ = some (.string KS) ∧ W.cell? ⟨Nb, 3, none⟩ = some (.int .i64 dv) ∧ W.cell? ⟨Nb, 4, none⟩ = some (.int .i64 0) ∧ W.cell? ⟨Nb, 5, none⟩ = some (.string TT)) ∧ (W.cell? ⟨D, 0, none⟩ = some (.slice bo1 LB.length cap1) ∧ W.cell? ⟨D, 1, none⟩ = some (.int .i64 ((at1 : Nat) : Int))) ∧ (convert 26 9 (.slice A (at1 - at0) (cap1 - at0))).run Tryz.prog W = .ok (.string (strOfNums ((LB.drop at0).take (at1 - at0)))) W) := hide (fun W hW => ⟨(SX.out.below hW).cells.1.1, (SX.out.below hW).cells.2.1, ⟨Ki.cell_stays d0 hW, Ki.cell_stays d1 hW⟩, conv_rd (cap := cap1 - at0) (hrA.below hW) (dst_len hat1 hpl)⟩)
                have hSLL : (LB.drop at0).take (at1 - at0) = l.take (l.length - mq.length) := by rw [← HL.out]; congr 1; have q1 := congrArg List.length HL1.out; have q2 := congrArg List.length HL.out; simp only [List.length_drop] at q1 q2; omega
                rw [hSLL] at HS
                clear hSLL hrA hr1 hnil1 d0 d1 df1
                obtain ⟨YL, hYL⟩ : ∃ r, r = l.take (l.length - mq.length) := ⟨_, rfl⟩
                rw [← hYL] at HS
                have HYL := hide hYL
                clear hYL
                refine wp_region_held_drew (S := fun w' => (w'.cell? ⟨Eb, 0, none⟩ = some (.bool true)) ∧ (w'.cell? ⟨Nb, 0, none⟩ = some (.slice pa L.length pc) ∧ w'.cell? ⟨Nb, 1, none⟩ = some (.int .i64 (Ki.ofD dv)) ∧ w'.cell? ⟨Nb, 2, none⟩ = some (.string KS) ∧ w'.cell? ⟨Nb, 3, none⟩ = some (.int .i64 dv) ∧ w'.cell? ⟨Nb, 4, none⟩ = some (.int .i64 0) ∧ w'.cell? ⟨Nb, 5, none⟩ = some (.string TT)) ∧ (w'.cell? ⟨D, 0, none⟩ = some (.slice bo1 LB.length cap1) ∧ w'.cell? ⟨D, 1, none⟩ = some (.int .i64 ((at1 : Nat) : Int))) ∧ (convert 26 9 (.slice A (at1 - at0) (cap1 - at0))).run Tryz.prog w' = .ok (.string (strOfNums YL)) w') (by kernel_rfl) (HS.out _ (Below.refl _ _).drew) (fun hHeld => ?_)
                have b0 : Below w12.heap.size w12 w12.drew := (Below.refl _ _).drew
                obtain ⟨Wd, hWd⟩ : ∃ r, r = w12.drew := ⟨_, rfl⟩
                rw [← hWd] at b0 hHeld ⊢
                clear hWd
                refine take_op (i := 0) (d := 89) (OP := Op.load 4 (Operand.tmp 5)) (T := 4) (v := ?vogst80) rfl rfl rfl rfl (by kernel_rfl) (by kernel_rfl) (by kernel_rfl) (fun _ _ _ h => h) (by rfl) ?hogst80 hHeld ?rogst80
                case hogst80 => (intro w' hSw; (try dsimp only at hSw); go_simp <;> with_reducible rfl)
                try simp only [Act.put, List.setIfInBounds_toArray, List.set_cons_zero, List.set_cons_succ]
                refine take_op (i := 1) (d := 90) (OP := Op.unOp UnOp.not 4 (Operand.tmp 89)) (T := 4) (v := ?vogst81) rfl rfl rfl rfl (by kernel_rfl) (by kernel_rfl) (by kernel_rfl) (fun _ _ _ h => h) (by rfl) ?hogst81 hHeld ?rogst81
                case hogst81 => (intro w' hSw; (try dsimp only at hSw); go_simp <;> with_reducible rfl)
                try simp only [Act.put, List.setIfInBounds_toArray, List.set_cons_zero, List.set_cons_succ]
                refine take_op (i := 2) (d := 91) (OP := Op.move (Operand.tmp 90)) (T := 4) (v := ?vogst82) rfl rfl rfl rfl (by kernel_rfl) (by kernel_rfl) (by kernel_rfl) (fun _ _ _ h => h) (by rfl) ?hogst82 hHeld ?rogst82
                case hogst82 => (intro w' hSw; (try dsimp only at hSw); go_simp <;> with_reducible rfl)
                try simp only [Act.put, List.setIfInBounds_toArray, List.set_cons_zero, List.set_cons_succ]
                refine take_op (i := 3) (d := 92) (OP := Op.load 34 (Operand.tmp 10)) (T := 34) (v := ?vogst83) rfl rfl rfl rfl (by kernel_rfl) (by kernel_rfl) (by kernel_rfl) (fun _ _ _ h => h) (by rfl) ?hogst83 hHeld ?rogst83
                case hogst83 => (intro w' hSw; (try dsimp only at hSw); go_simp <;> with_reducible rfl)
                try simp only [Act.put, List.setIfInBounds_toArray, List.set_cons_zero, List.set_cons_succ]
                refine call_op (i := 4) (d := 93) (OP := Op.call { callee := Callee.value (Operand.func 13), args := #[Operand.tmp 92], argTypes := #[34] }) (T := 3) (f := 13) (args := #[odv pa L.length pc ⟨L, Ki.ofD dv, KS, dv, 0, TT⟩]) rfl rfl rfl rfl (by kernel_rfl) (by rfl) (by go_simp) ?_
                refine (k13 _ b0).mono ?_
                rintro e y1 ⟨rfl, dy1⟩
                have by1 := b0.trans (dy1.mono b0.size)
                have sy1 := HS.out y1 by1
                refine ⟨_, rfl, sy1, ?_⟩
                replace hHeld := sy1
                clear sy1 dy1
                try simp only [Act.put, List.setIfInBounds_toArray, List.set_cons_zero, List.set_cons_succ]
                by_cases hv0 : cv = 0
                · subst hv0
                  have hok := ok_of HCV.out.symm
                  have k15 : Calls Tryz.prog 15 #[odv pa L.length pc ⟨L, Ki.ofD dv, KS, dv, 0, TT⟩] y1 fun e w' => Made 5 y1 w' e (frO ⟨L, Ki.ofD dv, KS, dv, 0, TT⟩) := refForm_any (pc := pc) ⟨L, Ki.ofD dv, KS, dv, 0, TT⟩ ((rp_of SX.out.own (by have := HLB.out; omega)).below by1) hok (dst_i64 H8.out HDR.out)
                  obtain ⟨XL, hXL⟩ : ∃ r, r = frO ⟨L, Ki.ofD dv, KS, dv, 0, TT⟩ := ⟨_, rfl⟩
                  rw [← hXL] at k15
                  have HXL := hide hXL
                  have hx8 : U8 XL := by rw [hXL]; exact frO_u8 _
                  have hy8 : U8 YL := by rw [HYL.out]; exact u8_take H8.out _
                  clear hXL hok
                  refine take_op (i := 5) (d := 94) (OP := Op.binOp BinOp.neq 3 (Operand.tmp 93) (Operand.const (Value.int IntKind.i64 0)) 3) (T := 4) (v := (.bool false)) rfl rfl rfl rfl (by kernel_rfl) (by kernel_rfl) (by kernel_rfl) (fun _ _ _ h => h) (by rfl) ?hogsd88 hHeld ?rogsd88
                  case hogsd88 => (intro w' hSw; (try dsimp only at hSw); go_simp <;> with_reducible rfl)
                  try simp only [Act.put, List.setIfInBounds_toArray, List.set_cons_zero, List.set_cons_succ]
                  refine take_op (i := 6) (d := 95) (OP := Op.pick (Operand.tmp 91) (Operand.const (Value.bool true)) (Operand.tmp 94)) (T := 4) (v := ?vogsd89) rfl rfl rfl rfl (by kernel_rfl) (by kernel_rfl) (by kernel_rfl) (fun _ _ _ h => h) (by rfl) ?hogsd89 hHeld ?rogsd89
                  case hogsd89 => (intro w' hSw; (try dsimp only at hSw); go_simp <;> with_reducible rfl)
                  try simp only [Act.put, List.setIfInBounds_toArray, List.set_cons_zero, List.set_cons_succ]
                  refine take_op (i := 7) (d := 96) (OP := Op.move (Operand.tmp 95)) (T := 4) (v := ?vogsd90) rfl rfl rfl rfl (by kernel_rfl) (by kernel_rfl) (by kernel_rfl) (fun _ _ _ h => h) (by rfl) ?hogsd90 hHeld ?rogsd90
                  case hogsd90 => (intro w' hSw; (try dsimp only at hSw); go_simp <;> with_reducible rfl)
                  try simp only [Act.put, List.setIfInBounds_toArray, List.set_cons_zero, List.set_cons_succ]
                  refine take_op (i := 8) (d := 97) (OP := Op.load 34 (Operand.tmp 10)) (T := 34) (v := ?vogsd91) rfl rfl rfl rfl (by kernel_rfl) (by kernel_rfl) (by kernel_rfl) (fun _ _ _ h => h) (by rfl) ?hogsd91 hHeld ?rogsd91
                  case hogsd91 => (intro w' hSw; (try dsimp only at hSw); go_simp <;> with_reducible rfl)
                  try simp only [Act.put, List.setIfInBounds_toArray, List.set_cons_zero, List.set_cons_succ]
                  refine take_op (i := 11) (d := 100) (OP := Op.move (Operand.tmp 0)) (T := 54) (v := ?vogsd92) rfl rfl rfl rfl (by kernel_rfl) (by kernel_rfl) (by kernel_rfl) (fun _ _ _ h => h) (by rfl) ?hogsd92 hHeld ?rogsd92
                  case hogsd92 => (intro w' hSw; (try dsimp only at hSw); go_simp <;> with_reducible rfl)
                  try simp only [Act.put, List.setIfInBounds_toArray, List.set_cons_zero, List.set_cons_succ]
                  refine take_op (i := 12) (d := 101) (OP := Op.nilCheck (Operand.tmp 100)) (T := 0) (v := ?vogsd93) rfl rfl rfl rfl (by kernel_rfl) (by kernel_rfl) (by kernel_rfl) (fun _ _ _ h => h) (by rfl) ?hogsd93 hHeld ?rogsd93
                  case hogsd93 => (intro w' hSw; (try dsimp only at hSw); go_simp <;> with_reducible rfl)
                  try simp only [Act.put, List.setIfInBounds_toArray, List.set_cons_zero, List.set_cons_succ]
                  refine take_op (i := 13) (d := 102) (OP := Op.fieldAddr 56 (Operand.tmp 101) 0) (T := 0) (v := ?vogsd94) rfl rfl rfl rfl (by kernel_rfl) (by kernel_rfl) (by kernel_rfl) (fun _ _ _ h => h) (by rfl) ?hogsd94 hHeld ?rogsd94
                  case hogsd94 => (intro w' hSw; (try dsimp only at hSw); go_simp <;> with_reducible rfl)
                  try simp only [Act.put, List.setIfInBounds_toArray, List.set_cons_zero, List.set_cons_succ]
                  refine take_op (i := 14) (d := 103) (OP := Op.load 26 (Operand.tmp 102)) (T := 26) (v := ?vogsd95) rfl rfl rfl rfl (by kernel_rfl) (by kernel_rfl) (by kernel_rfl) (fun _ _ _ h => h) (by rfl) ?hogsd95 hHeld ?rogsd95
                  case hogsd95 => (intro w' hSw; (try dsimp only at hSw); go_simp <;> with_reducible rfl)
                  try simp only [Act.put, List.setIfInBounds_toArray, List.set_cons_zero, List.set_cons_succ]
                  refine take_op (i := 15) (d := 104) (OP := Op.move (Operand.tmp 4)) (T := 3) (v := ?vogsd96) rfl rfl rfl rfl (by kernel_rfl) (by kernel_rfl) (by kernel_rfl) (fun _ _ _ h => h) (by rfl) ?hogsd96 hHeld ?rogsd96
                  case hogsd96 => (intro w' hSw; (try dsimp only at hSw); go_simp <;> with_reducible rfl)
                  try simp only [Act.put, List.setIfInBounds_toArray, List.set_cons_zero, List.set_cons_succ]
                  refine take_op (i := 16) (d := 105) (OP := Op.move (Operand.tmp 0)) (T := 54) (v := ?vogsd97) rfl rfl rfl rfl (by kernel_rfl) (by kernel_rfl) (by kernel_rfl) (fun _ _ _ h => h) (by rfl) ?hogsd97 hHeld ?rogsd97
                  case hogsd97 => (intro w' hSw; (try dsimp only at hSw); go_simp <;> with_reducible rfl)
                  try simp only [Act.put, List.setIfInBounds_toArray, List.set_cons_zero, List.set_cons_succ]
                  refine take_op (i := 17) (d := 106) (OP := Op.nilCheck (Operand.tmp 105)) (T := 0) (v := ?vogsd98) rfl rfl rfl rfl (by kernel_rfl) (by kernel_rfl) (by kernel_rfl) (fun _ _ _ h => h) (by rfl) ?hogsd98 hHeld ?rogsd98
                  case hogsd98 => (intro w' hSw; (try dsimp only at hSw); go_simp <;> with_reducible rfl)
                  try simp only [Act.put, List.setIfInBounds_toArray, List.set_cons_zero, List.set_cons_succ]
                  refine take_op (i := 18) (d := 107) (OP := Op.fieldAddr 56 (Operand.tmp 106) 1) (T := 0) (v := ?vogsd99) rfl rfl rfl rfl (by kernel_rfl) (by kernel_rfl) (by kernel_rfl) (fun _ _ _ h => h) (by rfl) ?hogsd99 hHeld ?rogsd99
                  case hogsd99 => (intro w' hSw; (try dsimp only at hSw); go_simp <;> with_reducible rfl)
                  try simp only [Act.put, List.setIfInBounds_toArray, List.set_cons_zero, List.set_cons_succ]
                  refine take_op (i := 19) (d := 108) (OP := Op.load 3 (Operand.tmp 107)) (T := 3) (v := ?vogsd100) rfl rfl rfl rfl (by kernel_rfl) (by kernel_rfl) (by kernel_rfl) (fun _ _ _ h => h) (by rfl) ?hogsd100 hHeld ?rogsd100
                  case hogsd100 => (intro w' hSw; (try dsimp only at hSw); go_simp <;> with_reducible rfl)
                  try simp only [Act.put, List.setIfInBounds_toArray, List.set_cons_zero, List.set_cons_succ]
                  refine take_op (i := 20) (d := 109) (OP := Op.slice 26 (Operand.tmp 103) (some (Operand.tmp 104)) (some (Operand.tmp 108)) none) (T := 26) (v := (.slice A (at1 - at0) (cap1 - at0))) rfl rfl rfl rfl (by kernel_rfl) (by kernel_rfl) (by kernel_rfl) (fun _ _ _ h => h) (by rfl) ?hogsd101 hHeld ?rogsd101
                  case hogsd101 => (intro w' hSw; (try dsimp only at hSw); exact exec_slice2 hsl rfl rfl rfl)
                  try simp only [Act.put, List.setIfInBounds_toArray, List.set_cons_zero, List.set_cons_succ]
                  refine take_op (i := 21) (d := 110) (OP := Op.convert 26 9 (Operand.tmp 109)) (T := 9) (v := ?vogsd102) rfl rfl rfl rfl (by kernel_rfl) (by kernel_rfl) (by kernel_rfl) (fun _ _ _ h => h) (by rfl) ?hogsd102 hHeld ?rogsd102
                  case hogsd102 => (intro w' hSw; (try dsimp only at hSw); go_simp <;> with_reducible rfl)
                  try simp only [Act.put, List.setIfInBounds_toArray, List.set_cons_zero, List.set_cons_succ]
                  refine call_op (i := 9) (d := 98) (OP := Op.call { callee := Callee.value (Operand.func 15), args := #[Operand.tmp 97], argTypes := #[34] }) (T := 26) (f := 15) (args := #[odv pa L.length pc ⟨L, Ki.ofD dv, KS, dv, 0, TT⟩]) rfl rfl rfl rfl (by kernel_rfl) (by rfl) (by go_simp) ?_
                  refine k15.mono ?_
                  rintro e y2 ⟨mA, mc, rfl, mO, mn, dy2⟩
                  have by2 := by1.trans (dy2.mono by1.size)
                  have sy2 := HS.out y2 by2
                  have HMM : ∀ W, Below y2.heap.size y2 W → (convert 26 9 (.slice mA XL.length mc)).run Tryz.prog W = .ok (.string (strOfNums XL)) W := fun W hW => conv_rd (cap := mc) (mO.rd.below hW) rfl
                  have sy3 := HMM y2 (Below.refl _ _)
                  refine ⟨_, rfl, sy2, ?_⟩
                  refine wpAnyH_mono (S' := fun w' => ((w'.cell? ⟨Eb, 0, none⟩ = some (.bool true)) ∧ (w'.cell? ⟨Nb, 0, none⟩ = some (.slice pa L.length pc) ∧ w'.cell? ⟨Nb, 1, none⟩ = some (.int .i64 (Ki.ofD dv)) ∧ w'.cell? ⟨Nb, 2, none⟩ = some (.string KS) ∧ w'.cell? ⟨Nb, 3, none⟩ = some (.int .i64 dv) ∧ w'.cell? ⟨Nb, 4, none⟩ = some (.int .i64 0) ∧ w'.cell? ⟨Nb, 5, none⟩ = some (.string TT)) ∧ (w'.cell? ⟨D, 0, none⟩ = some (.slice bo1 LB.length cap1) ∧ w'.cell? ⟨D, 1, none⟩ = some (.int .i64 ((at1 : Nat) : Int))) ∧ (convert 26 9 (.slice A (at1 - at0) (cap1 - at0))).run Tryz.prog w' = .ok (.string (strOfNums YL)) w') ∧ (convert 26 9 (.slice mA XL.length mc)).run Tryz.prog w' = .ok (.string (strOfNums XL)) w') (fun _ h => h.1) ?_
                  replace hHeld := And.intro sy2 sy3
                  clear sy2 sy3 dy2 mO mn HMM k15 k13
                  try simp only [Act.put, List.setIfInBounds_toArray, List.set_cons_zero, List.set_cons_succ]
                  refine take_op (i := 10) (d := 99) (OP := Op.convert 26 9 (Operand.tmp 98)) (T := 9) (v := ?vogsd103) rfl rfl rfl rfl (by kernel_rfl) (by kernel_rfl) (by kernel_rfl) (fun _ _ _ h => h) (by rfl) ?hogsd103 hHeld ?rogsd103
                  case hogsd103 => (intro w' hSw; (try dsimp only at hSw); go_simp <;> with_reducible rfl)
                  try simp only [Act.put, List.setIfInBounds_toArray, List.set_cons_zero, List.set_cons_succ]
                  by_cases hxy : XL = YL
                  · subst hxy
                    refine take_op (i := 22) (d := 111) (OP := Op.binOp BinOp.neq 9 (Operand.tmp 99) (Operand.tmp 110) 9) (T := 4) (v := (.bool false)) rfl rfl rfl rfl (by kernel_rfl) (by kernel_rfl) (by kernel_rfl) (fun _ _ _ h => h) (by rfl) ?hogse104 hHeld ?rogse104
                    case hogse104 => (intro w' hSw; exact exec_ne9 rfl rfl (by simp))
                    try simp only [Act.put, List.setIfInBounds_toArray, List.set_cons_zero, List.set_cons_succ]
                    have HXX : Hid (dtake l = (⟨L, Ki.ofD dv, KS, dv, 0, TT⟩, 0, mq)) := hide (by unfold dtake; rw [HDR.out]; exact if_pos ⟨rfl, HCV.out.symm, HXL.out.symm.trans HYL.out⟩)
                    refine take_op (i := 23) (d := 112) (OP := Op.pick (Operand.tmp 96) (Operand.const (Value.bool true)) (Operand.tmp 111)) (T := 4) (v := ?vogse105) rfl rfl rfl rfl (by kernel_rfl) (by kernel_rfl) (by kernel_rfl) (fun _ _ _ h => h) (by rfl) ?hogse105 hHeld ?rogse105
                    case hogse105 => (intro w' hSw; (try dsimp only at hSw); go_simp <;> with_reducible rfl)
                    try simp only [Act.put, List.setIfInBounds_toArray, List.set_cons_zero, List.set_cons_succ]
                    refine wpAnyH_done (by kernel_rfl) ?_ _
                    have sx := SX.out.below by2
                    clear SX
                    have SX := hide sx
                    clear sx
                    have hx2 : y2.heap[w.heap.size]? = some (.cells (oc6 (.slice none 0 0) 0 ⟨#[]⟩ 0 0 ⟨#[]⟩) 34 (0, 0)) := (SX.out.only.block _ (Nat.lt_of_lt_of_le HN.out.2.2.1 HN.out.2.2.2) (by have := HN.out.2.1; omega)).trans HN.out.1
                    obtain ⟨⟨u0, u1, u2, u3, u4, u5⟩, e0, e1, e2, e3, e4, e5⟩ := blk6 hx2
                    have HX2 := hide hx2
                    clear hx2
                    go_wp2
                    refine ret_row_tmp w.heap.size (oc6 (.slice pa L.length pc) (Ki.ofD dv) KS dv 0 TT).toList rfl rfl rfl Tryz.underlying34 rfl Tryz.info34z (set6 HX2.out) rfl ?_
                    rw [HXX.out]
                    exact ⟨pa, pc, rfl, dst_own SX.out HN.out.2.1, dst_fin SX.out.doc H05.out SX.out.only HN.out.2.1⟩
                  · have hne := str_ne hx8 hy8 hxy
                    refine take_op (i := 22) (d := 111) (OP := Op.binOp BinOp.neq 9 (Operand.tmp 99) (Operand.tmp 110) 9) (T := 4) (v := (.bool true)) rfl rfl rfl rfl (by kernel_rfl) (by kernel_rfl) (by kernel_rfl) (fun _ _ _ h => h) (by rfl) ?hogsn106 hHeld ?rogsn106
                    case hogsn106 => (intro w' hSw; exact exec_ne9 rfl rfl (by rw [bne, hne]; rfl))
                    try simp only [Act.put, List.setIfInBounds_toArray, List.set_cons_zero, List.set_cons_succ]
                    have HXX : Hid (dtake l = (odZ, 4, l)) := hide (by unfold dtake; rw [HDR.out]; exact if_neg (fun h => hxy (HXL.out.trans (h.2.2.trans HYL.out.symm))))
                    refine take_op (i := 23) (d := 112) (OP := Op.pick (Operand.tmp 96) (Operand.const (Value.bool true)) (Operand.tmp 111)) (T := 4) (v := ?vogsn107) rfl rfl rfl rfl (by kernel_rfl) (by kernel_rfl) (by kernel_rfl) (fun _ _ _ h => h) (by rfl) ?hogsn107 hHeld ?rogsn107
                    case hogsn107 => (intro w' hSw; (try dsimp only at hSw); go_simp <;> with_reducible rfl)
                    try simp only [Act.put, List.setIfInBounds_toArray, List.set_cons_zero, List.set_cons_succ]
                    refine wpAnyH_done (by kernel_rfl) ?_ _
                    have sx := SX.out.below by2
                    clear SX
                    have SX := hide sx
                    clear sx
                    obtain ⟨bo2, cap2, at2, d0, d1, df1, -⟩ := SX.out.doc.cells
                    go_upto_region 22 with fail
                    obtain ⟨wz, hwz⟩ : ∃ r, r = y2.setCell ⟨D, 1, none⟩ (.int .i64 (at0 : Nat)) := ⟨_, rfl⟩
                    rw [← hwz]
                    have HZ := hide (dst_err SX.out HL.out hat hwz)
                    clear hwz
                    have hz2 : wz.heap[w.heap.size]? = some (.cells (oc6 (.slice none 0 0) 0 ⟨#[]⟩ 0 0 ⟨#[]⟩) 34 (0, 0)) := (HZ.out.2.block _ (Nat.lt_of_lt_of_le HN.out.2.2.1 HN.out.2.2.2) (by have := HN.out.2.1; omega)).trans HN.out.1
                    obtain ⟨⟨u0, u1, u2, u3, u4, u5⟩, e0, e1, e2, e3, e4, e5⟩ := blk6 hz2
                    have HZ2 := hide hz2
                    clear hz2
                    go_wp2
                    refine ret_row_tmp w.heap.size (oc6 (.slice none 0 0) 0 ⟨#[]⟩ 0 0 ⟨#[]⟩).toList rfl rfl rfl Tryz.underlying34 rfl Tryz.info34z (set6 HZ2.out) rfl ?_
                    rw [HXX.out]
                    exact ⟨none, 0, rfl, Os.nil _ _, dst_fin HZ.out.1 H05.out HZ.out.2 HN.out.2.1⟩
                · have hv1 : (cv != 0) = true := by simpa using hv0
                  have HXX : Hid (dtake l = (odZ, 4, l)) := hide (by unfold dtake; rw [HDR.out]; exact if_neg (fun h => hv0 (HCV.out.trans h.2.1)))
                  refine take_op (i := 5) (d := 94) (OP := Op.binOp BinOp.neq 3 (Operand.tmp 93) (Operand.const (Value.int IntKind.i64 0)) 3) (T := 4) (v := (.bool true)) rfl rfl rfl rfl (by kernel_rfl) (by kernel_rfl) (by kernel_rfl) (fun _ _ _ h => h) (by rfl) ?hogsc84 hHeld ?rogsc84
                  case hogsc84 => (intro w' hSw; (try dsimp only at hSw); go_simp <;> with_reducible rfl)
                  try simp only [Act.put, List.setIfInBounds_toArray, List.set_cons_zero, List.set_cons_succ]
                  refine take_op (i := 6) (d := 95) (OP := Op.pick (Operand.tmp 91) (Operand.const (Value.bool true)) (Operand.tmp 94)) (T := 4) (v := ?vogsc85) rfl rfl rfl rfl (by kernel_rfl) (by kernel_rfl) (by kernel_rfl) (fun _ _ _ h => h) (by rfl) ?hogsc85 hHeld ?rogsc85
                  case hogsc85 => (intro w' hSw; (try dsimp only at hSw); go_simp <;> with_reducible rfl)
                  try simp only [Act.put, List.setIfInBounds_toArray, List.set_cons_zero, List.set_cons_succ]
                  refine take_op (i := 7) (d := 96) (OP := Op.move (Operand.tmp 95)) (T := 4) (v := ?vogsc86) rfl rfl rfl rfl (by kernel_rfl) (by kernel_rfl) (by kernel_rfl) (fun _ _ _ h => h) (by rfl) ?hogsc86 hHeld ?rogsc86
                  case hogsc86 => (intro w' hSw; (try dsimp only at hSw); go_simp <;> with_reducible rfl)
                  try simp only [Act.put, List.setIfInBounds_toArray, List.set_cons_zero, List.set_cons_succ]
                  refine pass_op (i := 8) (d := 97) rfl rfl (by kernel_rfl) (by kernel_rfl) (by kernel_rfl) (fun _ _ _ h => h) (by rfl) hHeld ?_
                  try simp only [Act.put, List.setIfInBounds_toArray, List.set_cons_zero, List.set_cons_succ]
                  refine pass_op (i := 9) (d := 98) rfl rfl (by kernel_rfl) (by kernel_rfl) (by kernel_rfl) (fun _ _ _ h => h) (by rfl) hHeld ?_
                  try simp only [Act.put, List.setIfInBounds_toArray, List.set_cons_zero, List.set_cons_succ]
                  refine pass_op (i := 10) (d := 99) rfl rfl (by kernel_rfl) (by kernel_rfl) (by kernel_rfl) (fun _ _ _ h => h) (by rfl) hHeld ?_
                  try simp only [Act.put, List.setIfInBounds_toArray, List.set_cons_zero, List.set_cons_succ]
                  refine pass_op (i := 11) (d := 100) rfl rfl (by kernel_rfl) (by kernel_rfl) (by kernel_rfl) (fun _ _ _ h => h) (by rfl) hHeld ?_
                  try simp only [Act.put, List.setIfInBounds_toArray, List.set_cons_zero, List.set_cons_succ]
                  refine pass_op (i := 12) (d := 101) rfl rfl (by kernel_rfl) (by kernel_rfl) (by kernel_rfl) (fun _ _ _ h => h) (by rfl) hHeld ?_
                  try simp only [Act.put, List.setIfInBounds_toArray, List.set_cons_zero, List.set_cons_succ]
                  refine pass_op (i := 13) (d := 102) rfl rfl (by kernel_rfl) (by kernel_rfl) (by kernel_rfl) (fun _ _ _ h => h) (by rfl) hHeld ?_
                  try simp only [Act.put, List.setIfInBounds_toArray, List.set_cons_zero, List.set_cons_succ]
                  refine pass_op (i := 14) (d := 103) rfl rfl (by kernel_rfl) (by kernel_rfl) (by kernel_rfl) (fun _ _ _ h => h) (by rfl) hHeld ?_
                  try simp only [Act.put, List.setIfInBounds_toArray, List.set_cons_zero, List.set_cons_succ]
                  refine pass_op (i := 15) (d := 104) rfl rfl (by kernel_rfl) (by kernel_rfl) (by kernel_rfl) (fun _ _ _ h => h) (by rfl) hHeld ?_
                  try simp only [Act.put, List.setIfInBounds_toArray, List.set_cons_zero, List.set_cons_succ]
                  refine pass_op (i := 16) (d := 105) rfl rfl (by kernel_rfl) (by kernel_rfl) (by kernel_rfl) (fun _ _ _ h => h) (by rfl) hHeld ?_
                  try simp only [Act.put, List.setIfInBounds_toArray, List.set_cons_zero, List.set_cons_succ]
                  refine pass_op (i := 17) (d := 106) rfl rfl (by kernel_rfl) (by kernel_rfl) (by kernel_rfl) (fun _ _ _ h => h) (by rfl) hHeld ?_
                  try simp only [Act.put, List.setIfInBounds_toArray, List.set_cons_zero, List.set_cons_succ]
                  refine pass_op (i := 18) (d := 107) rfl rfl (by kernel_rfl) (by kernel_rfl) (by kernel_rfl) (fun _ _ _ h => h) (by rfl) hHeld ?_
                  try simp only [Act.put, List.setIfInBounds_toArray, List.set_cons_zero, List.set_cons_succ]
                  refine pass_op (i := 19) (d := 108) rfl rfl (by kernel_rfl) (by kernel_rfl) (by kernel_rfl) (fun _ _ _ h => h) (by rfl) hHeld ?_
                  try simp only [Act.put, List.setIfInBounds_toArray, List.set_cons_zero, List.set_cons_succ]
                  refine pass_op (i := 20) (d := 109) rfl rfl (by kernel_rfl) (by kernel_rfl) (by kernel_rfl) (fun _ _ _ h => h) (by rfl) hHeld ?_
                  try simp only [Act.put, List.setIfInBounds_toArray, List.set_cons_zero, List.set_cons_succ]
                  refine pass_op (i := 21) (d := 110) rfl rfl (by kernel_rfl) (by kernel_rfl) (by kernel_rfl) (fun _ _ _ h => h) (by rfl) hHeld ?_
                  try simp only [Act.put, List.setIfInBounds_toArray, List.set_cons_zero, List.set_cons_succ]
                  refine pass_op (i := 22) (d := 111) rfl rfl (by kernel_rfl) (by kernel_rfl) (by kernel_rfl) (fun _ _ _ h => h) (by rfl) hHeld ?_
                  try simp only [Act.put, List.setIfInBounds_toArray, List.set_cons_zero, List.set_cons_succ]
                  refine take_op (i := 23) (d := 112) (OP := Op.pick (Operand.tmp 96) (Operand.const (Value.bool true)) (Operand.tmp 111)) (T := 4) (v := ?vogsc87) rfl rfl rfl rfl (by kernel_rfl) (by kernel_rfl) (by kernel_rfl) (fun _ _ _ h => h) (by rfl) ?hogsc87 hHeld ?rogsc87
                  case hogsc87 => (intro w' hSw; (try dsimp only at hSw); go_simp <;> with_reducible rfl)
                  try simp only [Act.put, List.setIfInBounds_toArray, List.set_cons_zero, List.set_cons_succ]
                  refine wpAnyH_done (by kernel_rfl) ?_ _
                  have sx := SX.out.below by1
                  clear SX
                  have SX := hide sx
                  clear sx
                  obtain ⟨bo2, cap2, at2, d0, d1, df1, -⟩ := SX.out.doc.cells
                  go_upto_region 22 with fail
                  obtain ⟨wz, hwz⟩ : ∃ r, r = y1.setCell ⟨D, 1, none⟩ (.int .i64 (at0 : Nat)) := ⟨_, rfl⟩
                  rw [← hwz]
                  have HZ := hide (dst_err SX.out HL.out hat hwz)
                  clear hwz
                  have hz2 : wz.heap[w.heap.size]? = some (.cells (oc6 (.slice none 0 0) 0 ⟨#[]⟩ 0 0 ⟨#[]⟩) 34 (0, 0)) := (HZ.out.2.block _ (Nat.lt_of_lt_of_le HN.out.2.2.1 HN.out.2.2.2) (by have := HN.out.2.1; omega)).trans HN.out.1
                  obtain ⟨⟨u0, u1, u2, u3, u4, u5⟩, e0, e1, e2, e3, e4, e5⟩ := blk6 hz2
                  have HZ2 := hide hz2
                  clear hz2
                  go_wp2
                  refine ret_row_tmp w.heap.size (oc6 (.slice none 0 0) 0 ⟨#[]⟩ 0 0 ⟨#[]⟩).toList rfl rfl rfl Tryz.underlying34 rfl Tryz.info34z (set6 HZ2.out) rfl ?_
                  rw [HXX.out]
                  exact ⟨none, 0, rfl, Os.nil _ _, dst_fin HZ.out.1 H05.out HZ.out.2 HN.out.2.1⟩
end Go.Proofs.YtpepgoelnagoaaaGreatDoor
