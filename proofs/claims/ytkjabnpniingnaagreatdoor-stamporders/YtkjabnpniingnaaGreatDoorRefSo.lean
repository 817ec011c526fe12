/-
  REFSO: the document's Sorted: names put in one by one.
-/
import Derived.Test.YtkjabnpniingnaaGreatDoorTheoryO
import Derived.Shelf.SlSortCmp.QuietGrown
import Derived.Test.YtkjabnpniingnaaGreatDoorSliceN
namespace Go.Proofs.YtkjabnpniingnaaGreatDoor
open Go.RowKit Go.Shelf Go.Sort
set_option linter.unusedSimpArgs false

theorem On.slice {w : World} {B : Nat} {v : Value} {L : List Nm} (h : On w B v L) : ∃ ao c, v = .slice ao L.length c ∧ (ao = none → c = 0) ∧ L.length ≤ c ∧ ∀ (k : Nat) (x : Nm), L[k]? = some x → ∃ g, ao = some ⟨g, 0, none⟩ ∧ B ≤ g ∧ g < w.heap.size ∧ Rn w g 0 L := by
  rcases h.shape with ⟨rfl, rfl⟩ | ⟨g, cap, rfl, h1, h2, h3⟩
  · exact ⟨none, 0, rfl, fun _ => rfl, Nat.le_refl _, by simp⟩
  · exact ⟨_, cap, rfl, by simp, h3, fun _ _ _ => ⟨g, rfl, h1, h2, h.rn⟩⟩
theorem On.rno {w : World} {B n c : Nat} {ao : Option Addr} {L : List Nm} (h : On w B (.slice ao n c) L) : RnO w ao L ∧ (∀ a, ao = some a → a.spot = none) ∧ (ao = none → c = 0) := by
  have hr := fun g n' cap => On.rn (w := w) (B := B) (g := g) (n := n') (cap := cap) (L := L)
  rcases h.shape with ⟨h1, rfl⟩ | ⟨g, cap, h1, h2, h3, h4⟩
  · injection h1 with e1 e2 e3
    subst e1 e3
    exact ⟨RnO.nil _ _, by simp, fun _ => rfl⟩
  · injection h1 with e1 e2 e3
    subst e1 e3
    exact ⟨RnO.ofRn (hr _ _ _ h), by rintro a ha; cases ha; rfl, by simp⟩
theorem one_rno (W : World) (x : Nm) : RnO (W.alloc (.cells #[.int .i64 x.1, .string x.2.1, .int .i64 x.2.2] 25)) (some ⟨W.heap.size, 0, none⟩) [x] := ⟨by simp, fun a ha j u hj => by
  cases ha
  exact new_enc W x j u (by simpa [flatN] using hj)⟩
theorem cmpR_grow (y x : Nm) (hy : y.2.1.size ≤ 9223372036854775807) (W : World) : Calls Tryz.prog 53 #[nv y.1 y.2.1 y.2.2, nv x.1 x.2.1 x.2.2] W fun e w' => e = .returned (.int .i64 (cfN y x)) ∧ ∃ q os', w' = Go.Sort.grow (W.drewN q) os' :=
  (refCmpN_grow y.1 y.2.1 y.2.2 x.1 x.2.1 x.2.2 W hy).mono fun _ _ ⟨he, hw⟩ => ⟨by rw [he, cfN, cmp_lexN], hw.grows⟩
theorem belG (B : Nat) (w : World) (n : Nat) (os : Array Obj) (hB : B ≤ w.heap.size) : Below B w (grow (w.drewN n) os) :=
  ⟨rfl, rfl, rfl, by simp [grow, World.drewN], fun k hk => by simp only [grow, World.drewN]; rw [Array.getElem?_append_left (by omega)]⟩
set_option maxHeartbeats 4000000 in
set_option maxRecDepth 100000 in
theorem refSorted_any (ao : Option Addr) (c : Nat) (L : List Nm) (w : World) (h : ∀ (k : Nat) (x : Nm), L[k]? = some x → ∃ b off, ao = some ⟨b, off, none⟩ ∧ b < w.heap.size ∧ Rn w b off L) (hl : L.length ≤ 100000) (hlab : ∀ x ∈ L, x.2.1.size ≤ 9223372036854775807) : Calls Tryz.prog 58 #[.slice ao L.length c] w fun e w' => ∃ v, e = .returned v ∧ On w' w.heap.size v (insAll [] L) ∧ Below w.heap.size w w' := by
  obtain ⟨i0, hi, hz0, hz1, hz2⟩ := info_parts Tryz.info25
  have mixed : Tryz.prog.follows .mixedOrders = true := by kernel_rfl
  have HH := hide h
  have HLab := hide hlab
  clear h hlab
  go_enter Tryz.func58, Tryz.ntmps58
  go_wp2
  go_loopw [3, 4] (fun v3 v4 wo => ∃ i : Nat, v4 = .int .i64 i ∧ i ≤ L.length ∧ Hid (On wo w.heap.size v3 (insAll [] (L.take i))) ∧ Hid (Below w.heap.size w wo)) (fun _ v4 _ => L.length - (intOf v4).toNat)
  case atStart => exact ⟨0, rfl, by omega, hide (On.nil _ _), hide (Below.refl _ _)⟩
  case round =>
    obtain ⟨i, rfl, hil, HO, HW⟩ := hrel
    have hsz := HW.out.size
    by_cases hgo : i < L.length
    · have z1 : (i : Int) < (L.length : Int) := by omega
      obtain ⟨x, hx⟩ : ∃ x, L[i]? = some x := ⟨_, List.getElem?_eq_getElem hgo⟩
      obtain ⟨b, off, hao, hbw, hR⟩ := HH.out i x hx
      subst hao
      have hnext : insAll [] (L.take (i + 1)) = insN x (insAll [] (L.take i)) := by rw [List.take_add_one, hx]; exact insAll_snoc _ _ _
      have hmem : ∀ y ∈ insAll [] (L.take i), y.2.1.size ≤ 9223372036854775807 := fun y hy => by
        have := ((insAll_ok (L.take i) [] (by simp [SS])).2 y).1 hy
        rcases this with h1 | h1
        · simp at h1
        · exact HLab.out y (List.mem_of_mem_take h1)
      have hlen := insAll_len (L.take i) []
      rw [List.length_take] at hlen
      simp only [List.length_nil, Nat.zero_add] at hlen
      have HX := hide (And.intro hx hnext)
      clear hx hnext
      obtain ⟨out, hout⟩ : ∃ out, out = insAll [] (L.take i) := ⟨_, rfl⟩
      rw [← hout] at HO HX hmem hlen
      have hlo : out.length ≤ 100000 := by omega
      clear hlen
      have HM := hide (And.intro hmem hout)
      clear hmem hout
      obtain ⟨ao3, c3, hv3, hn3, hc3, hsh⟩ := HO.out.slice
      subst hv3
      have HR := hide (And.intro hbw (And.intro (hR.below HW.out hbw) (And.intro hsh (And.intro hn3 hc3))))
      clear hbw hR hsh hn3 hc3
      obtain ⟨wo, hwo⟩ : ∃ wo, wo = wr := ⟨_, rfl⟩
      subst hwo
      obtain ⟨x1, x2, x3⟩ := x
      have hple := posN_le (x1, x2, x3) out
      by_cases hend : posN (x1, x2, x3) out = out.length
      · obtain ⟨P, hP⟩ : ∃ P, P = posN (x1, x2, x3) out := ⟨_, rfl⟩
        have HP := hide (And.intro hP hend)
        rw [← hP] at hple hend
        clear hP
        go_wp2
        go_loopw [5] (fun v5 wr => ∃ n : Nat, v5 = .int .i64 n ∧ n ≤ P ∧ Hid (Below wo.heap.size wo wr)) (fun v5 _ => P - (intOf v5).toNat)
        case atStart => exact ⟨0, rfl, Nat.zero_le _, hide (Below.refl _ _)⟩
        case round =>
          obtain ⟨n, rfl, hn, HI⟩ := hrel
          by_cases hnp : n < P
          · obtain ⟨y, hy⟩ : ∃ y, out[n]? = some y := ⟨_, List.getElem?_eq_getElem (by omega)⟩
            obtain ⟨y1, y2, y3⟩ := y
            have hlab := HM.out.1 (y1, y2, y3) (List.mem_of_getElem? hy)
            have hcall := cmpR_grow (y1, y2, y3) (x1, x2, x3) hlab
            rw [posN_lt (x1, x2, x3) out n (y1, y2, y3) hy (by rw [← HP.out.1]; exact hnp)] at hcall
            obtain ⟨g, hg, hg1, hg2, hRn⟩ := HR.out.2.2.1 n (y1, y2, y3) hy
            subst hg
            have hs1 := HI.out.size
            obtain ⟨e0, e1, e2⟩ := (hRn.below HI.out hg2).at hy
            obtain ⟨f0, f1, f2⟩ := (HR.out.2.1.below HI.out (Nat.lt_of_lt_of_le HR.out.1 hsz)).at HX.out.1
            simp only [Nat.zero_add] at e0 e1 e2 f0 f1 f2 hcall
            have b1 : g < wr.heap.size := by omega
            have b2 : b < wr.heap.size := Nat.lt_of_lt_of_le HR.out.1 (by omega)
            have E0 := fun nn os => cell_grown b1 e0 nn os
            have E1 := fun nn os => cell_grown b1 e1 nn os
            have E2 := fun nn os => cell_grown b1 e2 nn os
            have F0 := fun nn os => cell_grown b2 f0 nn os
            have F1 := fun nn os => cell_grown b2 f1 nn os
            have F2 := fun nn os => cell_grown b2 f2 nn os
            have z2 : (n : Int) < (out.length : Int) := by omega
            have z3 : ¬ (n : Int) < 0 := by omega
            clear e0 e1 e2 f0 f1 f2 hRn hlab hg1 hg2
            go_upto_region 6 with fail
            go_quiet_grown (first | (go_at_call 53; refine Calls.grown_of (hcall _)) | (refine Calls.grown_of (hcall _)))
            have H9 := hide (HI.out.trans (belG wo.heap.size wr nq osq hs1))
            clear E0 E1 E2 F0 F1 F2 hcall
            go_wp2
            go_roundw
            case rel => exact ⟨n + 1, by go_num, by omega, hide H9.out⟩
            case measure => simp [intOf]; omega
          · have z2 : ¬ (n : Int) < (out.length : Int) := by omega
            go_upto_region 6 with fail
            go_quiet (fail)
            have hq8 := HI.out.trans ((below_drew wr nq).mono HI.out.size)
            generalize wr.drewN nq = wq at hq8 ⊢
            have HQ := hide hq8
            clear hq8
            go_upto_region 8 with fail
            go_quiet (fail)
            have hq9 := HQ.out.trans ((below_drew wq nq).mono HQ.out.size)
            generalize wq.drewN nq = wz at hq9 ⊢
            have HZ := hide hq9
            clear hq9
            have hfin : insAll [] (L.take (i + 1)) = out.take n ++ [(x1, x2, x3)] ++ out.drop n := by
              have hnP : n = posN (x1, x2, x3) out := by rw [← HP.out.1]; omega
              rw [HX.out.2, hnP]
              exact insN_new _ _ (by rw [HP.out.2]; simp)
            have HF := hide hfin
            clear hfin
            go_upto_region 9 with fail
            obtain ⟨hro, hspot, hzc⟩ := HO.out.rno
            have hOz := hro.below HZ.out
            have hc3 : out.length ≤ c3 := HR.out.2.2.2.2
            have hnl : n ≤ out.length := by omega
            obtain ⟨A1, r1, q1, m1⟩ := slice_hi hOz hnl hc3 hspot
            obtain ⟨A2, r2, q2, m2⟩ := slice_lo hOz hnl hc3 hspot
            obtain ⟨f0, f1, f2⟩ := (HR.out.2.1.below HZ.out (Nat.lt_of_lt_of_le HR.out.1 hsz)).at HX.out.1
            simp only at f0 f1 f2
            have hbz : b < wz.heap.size := Nat.lt_of_lt_of_le HR.out.1 (Nat.le_trans hsz HZ.out.size)
            have hl1 : (out.take n).length = n := by rw [List.length_take]; omega
            have hl2 : (out.drop n).length = out.length - n := by rw [List.length_drop]
            have hap1 : ∀ W, Below wz.heap.size wz W → ∃ v9 w9, (Builtin.append_ #[81, 81] 81 #[.slice none 0 0, .slice A1 n c3]).run Tryz.prog W = .ok v9 w9 ∧ On w9 wz.heap.size v9 (out.take n) ∧ Below W.heap.size W w9 := fun W hW => by
              obtain ⟨a', c', w', h1, h2, h3⟩ := app_names (On.nil W W.heap.size) (fun e => hzc (m1 e)) (q1.below hW) (by simp; omega) (Nat.le_refl _)
              rw [hl1] at h1
              exact ⟨_, w', h1, h2.base hW.size, h3⟩
            have hap2 : ∀ (W : World) (v : Value) (R : Nat), Below wz.heap.size wz W → On W wz.heap.size v (out.take n) → RnO W (some ⟨R, 0, none⟩) [(x1, x2, x3)] → ∃ v9 w9, (Builtin.append_ #[81, 81] 81 #[v, .slice (some ⟨R, 0, none⟩) 1 1]).run Tryz.prog W = .ok v9 w9 ∧ On w9 wz.heap.size v9 (out.take n ++ [(x1, x2, x3)]) ∧ Below wz.heap.size W w9 := fun W v R hW ho hr => by
              obtain ⟨a', c', w', h1, h2, h3⟩ := app_names (c := 1) ho (by simp) hr (by simp; omega) hW.size
              exact ⟨_, w', h1, h2, h3⟩
            have hap3 : ∀ (W : World) (v : Value), Below wz.heap.size wz W → On W wz.heap.size v (out.take n ++ [(x1, x2, x3)]) → ∃ v9 w9, (Builtin.append_ #[81, 81] 81 #[v, .slice A2 (out.length - n) (c3 - n)]).run Tryz.prog W = .ok v9 w9 ∧ On w9 wz.heap.size v9 (out.take n ++ [(x1, x2, x3)] ++ out.drop n) ∧ Below wz.heap.size W w9 := fun W v hW ho => by
              obtain ⟨a', c', w', h1, h2, h3⟩ := app_names (c := c3 - n) ho (fun e => by rw [hzc (m2 e)]; simp) (q2.below hW) (by simp; omega) hW.size
              rw [hl2] at h1
              exact ⟨_, w', h1, h2, h3⟩
            clear hro hOz q1 q2 m1 m2 hl1 hl2 hspot hzc
            refine wp_region_held_drew (S := (fun w' => Below wz.heap.size wz w')) (by kernel_rfl) (by exact (Below.refl _ wz).drew) (fun hHeld => ?_)
            try dsimp only at hHeld
            generalize wz.drew = W1 at hHeld ⊢
            refine take_op (i := 0) (d := 46) (OP := Op.move (Operand.tmp 3)) (T := 81) (v := ?vy1x) rfl rfl rfl rfl (by kernel_rfl) (by kernel_rfl) (by kernel_rfl) (fun _ _ _ h => h) (by rfl) ?hy1x hHeld ?ry1x
            case hy1x => (intro w' hSw; (try dsimp only at hSw); go_simp <;> with_reducible rfl)
            try simp only [Act.put, List.setIfInBounds_toArray, List.set_cons_zero, List.set_cons_succ]
            refine take_op (i := 1) (d := 47) (OP := Op.move (Operand.tmp 5)) (T := 3) (v := ?vy2x) rfl rfl rfl rfl (by kernel_rfl) (by kernel_rfl) (by kernel_rfl) (fun _ _ _ h => h) (by rfl) ?hy2x hHeld ?ry2x
            case hy2x => (intro w' hSw; (try dsimp only at hSw); go_simp <;> with_reducible rfl)
            try simp only [Act.put, List.setIfInBounds_toArray, List.set_cons_zero, List.set_cons_succ]
            refine take_op (i := 2) (d := 48) (OP := Op.slice 81 (Operand.tmp 46) none (some (Operand.tmp 47)) none) (T := 81) (v := .slice A1 n c3) rfl rfl rfl rfl (by kernel_rfl) (by kernel_rfl) (by kernel_rfl) (fun _ _ _ h => h) (by rfl) (fun w' _ => exec_slhi rfl rfl (r1 w')) hHeld ?_
            try simp only [Act.put, List.setIfInBounds_toArray, List.set_cons_zero, List.set_cons_succ]
            refine take_op (i := 4) (d := 50) (OP := Op.move (Operand.tmp 0)) (T := 81) (v := ?vy3x) rfl rfl rfl rfl (by kernel_rfl) (by kernel_rfl) (by kernel_rfl) (fun _ _ _ h => h) (by rfl) ?hy3x hHeld ?ry3x
            case hy3x => (intro w' hSw; (try dsimp only at hSw); go_simp <;> with_reducible rfl)
            try simp only [Act.put, List.setIfInBounds_toArray, List.set_cons_zero, List.set_cons_succ]
            refine take_op (i := 5) (d := 51) (OP := Op.move (Operand.tmp 4)) (T := 3) (v := ?vy4x) rfl rfl rfl rfl (by kernel_rfl) (by kernel_rfl) (by kernel_rfl) (fun _ _ _ h => h) (by rfl) ?hy4x hHeld ?ry4x
            case hy4x => (intro w' hSw; (try dsimp only at hSw); go_simp <;> with_reducible rfl)
            try simp only [Act.put, List.setIfInBounds_toArray, List.set_cons_zero, List.set_cons_succ]
            refine take_op (i := 6) (d := 52) (OP := Op.indexAddr 81 (Operand.tmp 50) (Operand.tmp 51)) (T := 0) (v := .pointer (some ⟨b, off + i * 3, none⟩)) rfl rfl rfl rfl (by kernel_rfl) (by kernel_rfl) (by kernel_rfl) (fun _ _ _ h => h) (by rfl) (fun w' _ => exec_ixN rfl rfl z1) hHeld ?_
            try simp only [Act.put, List.setIfInBounds_toArray, List.set_cons_zero, List.set_cons_succ]
            refine take_op (i := 7) (d := 53) (OP := Op.load 25 (Operand.tmp 52)) (T := 25) (v := .agg #[.int .i64 x1, .string x2, .int .i64 x3]) rfl rfl rfl rfl (by kernel_rfl) (by kernel_rfl) (by kernel_rfl) (fun _ _ _ h => h) (by rfl) (fun w' hSw => exec_ldN rfl ((hSw.cell hbz).trans f0) ((hSw.cell hbz).trans f1) ((hSw.cell hbz).trans f2)) hHeld ?_
            try simp only [Act.put, List.setIfInBounds_toArray, List.set_cons_zero, List.set_cons_succ]
            refine take_op (i := 10) (d := 56) (OP := Op.move (Operand.tmp 3)) (T := 81) (v := ?vy5x) rfl rfl rfl rfl (by kernel_rfl) (by kernel_rfl) (by kernel_rfl) (fun _ _ _ h => h) (by rfl) ?hy5x hHeld ?ry5x
            case hy5x => (intro w' hSw; (try dsimp only at hSw); go_simp <;> with_reducible rfl)
            try simp only [Act.put, List.setIfInBounds_toArray, List.set_cons_zero, List.set_cons_succ]
            refine take_op (i := 11) (d := 57) (OP := Op.move (Operand.tmp 5)) (T := 3) (v := ?vy6x) rfl rfl rfl rfl (by kernel_rfl) (by kernel_rfl) (by kernel_rfl) (fun _ _ _ h => h) (by rfl) ?hy6x hHeld ?ry6x
            case hy6x => (intro w' hSw; (try dsimp only at hSw); go_simp <;> with_reducible rfl)
            try simp only [Act.put, List.setIfInBounds_toArray, List.set_cons_zero, List.set_cons_succ]
            refine take_op (i := 12) (d := 58) (OP := Op.slice 81 (Operand.tmp 56) (some (Operand.tmp 57)) none none) (T := 81) (v := .slice A2 (out.length - n) (c3 - n)) rfl rfl rfl rfl (by kernel_rfl) (by kernel_rfl) (by kernel_rfl) (fun _ _ _ h => h) (by rfl) (fun w' _ => exec_sllo rfl rfl (r2 w')) hHeld ?_
            try simp only [Act.put, List.setIfInBounds_toArray, List.set_cons_zero, List.set_cons_succ]
            obtain ⟨v9, w9, run9, hO9, b9⟩ := hap1 W1 hHeld
            have hS9 : Below wz.heap.size wz w9 := hHeld.trans (b9.mono hHeld.size)
            have hSl : Below wz.heap.size wz (W1.alloc (.cells #[.int .i64 x1, .string x2, .int .i64 x3] 25)) := hHeld.alloc hHeld.size _
            refine turns_op (i := 3) (di := 49) (OPi := Op.call { callee := Callee.builtin Builtin.append, args := #[Operand.const (Value.slice none 0 0), Operand.tmp 48], argTypes := #[81, 81] }) (Ti := 81) (j := 8) (dj := 54) (OPj := Op.buildSlice 81 1 #[(0, Operand.tmp 53)]) (Tj := 81) (v := v9) (w1 := w9) (u := .slice (some ⟨W1.heap.size, 0, none⟩) 1 1) (w2 := W1.alloc (.cells #[.int .i64 x1, .string x2, .int .i64 x3] 25)) rfl rfl rfl rfl rfl rfl rfl rfl (by kernel_rfl) (by rfl) (by rfl) (exec_append rfl rfl run9) (exec_bsN rfl) hS9 hSl ?_ ?_
            · try simp only [Act.put, List.setIfInBounds_toArray, List.set_cons_zero, List.set_cons_succ]
              replace hHeld := hS9
              have hS8 : Below wz.heap.size wz (w9.alloc (.cells #[.int .i64 x1, .string x2, .int .i64 x3] 25)) := hHeld.alloc hHeld.size _
              refine turn_op (i := 8) (d := 54) (OP := Op.buildSlice 81 1 #[(0, Operand.tmp 53)]) (T := 81) (v := .slice (some ⟨w9.heap.size, 0, none⟩) 1 1) (w' := w9.alloc (.cells #[.int .i64 x1, .string x2, .int .i64 x3] 25)) rfl rfl rfl rfl (by kernel_rfl) (by rfl) (exec_bsN rfl) hS8 ?_
              replace hHeld := hS8
              try simp only [Act.put, List.setIfInBounds_toArray, List.set_cons_zero, List.set_cons_succ]
              obtain ⟨v10, w10, run10, hO10, b10⟩ := hap2 (w9.alloc (.cells #[.int .i64 x1, .string x2, .int .i64 x3] 25)) _ w9.heap.size hHeld (hO9.below (below_new w9 (.cells #[.int .i64 x1, .string x2, .int .i64 x3] 25))) (one_rno w9 (x1, x2, x3))
              have hS10 := hHeld.trans b10
              refine turn_op (i := 9) (d := 55) (OP := Op.call { callee := Callee.builtin Builtin.append, args := #[Operand.tmp 49, Operand.tmp 54], argTypes := #[81, 81] }) (T := 81) (v := v10) (w' := w10) rfl rfl rfl rfl (by kernel_rfl) (by rfl) (exec_append rfl rfl run10) hS10 ?_
              replace hHeld := hS10
              try simp only [Act.put, List.setIfInBounds_toArray, List.set_cons_zero, List.set_cons_succ]
              obtain ⟨v11, w11, run11, hO11, b11⟩ := hap3 w10 _ hHeld hO10
              have hS11 := hHeld.trans b11
              refine turn_op (i := 13) (d := 59) (OP := Op.call { callee := Callee.builtin Builtin.append, args := #[Operand.tmp 55, Operand.tmp 58], argTypes := #[81, 81] }) (T := 81) (v := v11) (w' := w11) rfl rfl rfl rfl (by kernel_rfl) (by rfl) (exec_append rfl rfl run11) hS11 ?_
              replace hHeld := hS11
              try simp only [Act.put, List.setIfInBounds_toArray, List.set_cons_zero, List.set_cons_succ]
              refine take_op (i := 14) (d := 3) (OP := Op.assign (Operand.tmp 59)) (T := 81) (v := ?vy7x) rfl rfl rfl rfl (by kernel_rfl) (by kernel_rfl) (by kernel_rfl) (fun _ _ _ h => h) (by rfl) ?hy7x hHeld ?ry7x
              case hy7x => (intro w' hSw; (try dsimp only at hSw); go_simp <;> with_reducible rfl)
              try simp only [Act.put, List.setIfInBounds_toArray, List.set_cons_zero, List.set_cons_succ]
              refine wpAnyH_done (by kernel_rfl) ?_ _
              have H11 : Hid (On w11 w.heap.size v11 (insAll [] (L.take (i + 1))) ∧ Below w.heap.size w w11) := hide ⟨by rw [HF.out]; exact hO11.base (Nat.le_trans hsz HZ.out.size), (HW.out.trans (HZ.out.mono hsz)).trans (hS11.mono (Nat.le_trans hsz HZ.out.size))⟩
              clear hap1 hap2 hap3 r1 r2 f0 f1 f2 hO9 b9 run9 hO10 run10 b10 hO11 run11 b11
              go_wp2
              go_roundw
              case rel => exact ⟨i + 1, by go_num, by omega, hide H11.out.1, hide H11.out.2⟩
              case measure => simp [intOf]; omega
            · try simp only [Act.put, List.setIfInBounds_toArray, List.set_cons_zero, List.set_cons_succ]
              clear run9 hO9 b9 hS9 v9 w9
              replace hHeld := hSl
              obtain ⟨v9, w9, run9, hO9, b9⟩ := hap1 _ hHeld
              have hS9 : Below wz.heap.size wz w9 := hHeld.trans (b9.mono hHeld.size)
              refine turn_op (i := 3) (d := 49) (OP := Op.call { callee := Callee.builtin Builtin.append, args := #[Operand.const (Value.slice none 0 0), Operand.tmp 48], argTypes := #[81, 81] }) (T := 81) (v := v9) (w' := w9) rfl rfl rfl rfl (by kernel_rfl) (by rfl) (exec_append rfl rfl run9) hS9 ?_
              replace hHeld := hS9
              try simp only [Act.put, List.setIfInBounds_toArray, List.set_cons_zero, List.set_cons_succ]
              obtain ⟨v10, w10, run10, hO10, b10⟩ := hap2 w9 _ W1.heap.size hHeld hO9 ((one_rno W1 (x1, x2, x3)).below b9)
              have hS10 := hHeld.trans b10
              refine turn_op (i := 9) (d := 55) (OP := Op.call { callee := Callee.builtin Builtin.append, args := #[Operand.tmp 49, Operand.tmp 54], argTypes := #[81, 81] }) (T := 81) (v := v10) (w' := w10) rfl rfl rfl rfl (by kernel_rfl) (by rfl) (exec_append rfl rfl run10) hS10 ?_
              replace hHeld := hS10
              try simp only [Act.put, List.setIfInBounds_toArray, List.set_cons_zero, List.set_cons_succ]
              obtain ⟨v11, w11, run11, hO11, b11⟩ := hap3 w10 _ hHeld hO10
              have hS11 := hHeld.trans b11
              refine turn_op (i := 13) (d := 59) (OP := Op.call { callee := Callee.builtin Builtin.append, args := #[Operand.tmp 55, Operand.tmp 58], argTypes := #[81, 81] }) (T := 81) (v := v11) (w' := w11) rfl rfl rfl rfl (by kernel_rfl) (by rfl) (exec_append rfl rfl run11) hS11 ?_
              replace hHeld := hS11
              try simp only [Act.put, List.setIfInBounds_toArray, List.set_cons_zero, List.set_cons_succ]
              refine take_op (i := 14) (d := 3) (OP := Op.assign (Operand.tmp 59)) (T := 81) (v := ?vy8x) rfl rfl rfl rfl (by kernel_rfl) (by kernel_rfl) (by kernel_rfl) (fun _ _ _ h => h) (by rfl) ?hy8x hHeld ?ry8x
              case hy8x => (intro w' hSw; (try dsimp only at hSw); go_simp <;> with_reducible rfl)
              try simp only [Act.put, List.setIfInBounds_toArray, List.set_cons_zero, List.set_cons_succ]
              refine wpAnyH_done (by kernel_rfl) ?_ _
              have H11 : Hid (On w11 w.heap.size v11 (insAll [] (L.take (i + 1))) ∧ Below w.heap.size w w11) := hide ⟨by rw [HF.out]; exact hO11.base (Nat.le_trans hsz HZ.out.size), (HW.out.trans (HZ.out.mono hsz)).trans (hS11.mono (Nat.le_trans hsz HZ.out.size))⟩
              clear hap1 hap2 hap3 r1 r2 f0 f1 f2 hO9 b9 run9 hO10 run10 b10 hO11 run11 b11
              go_wp2
              go_roundw
              case rel => exact ⟨i + 1, by go_num, by omega, hide H11.out.1, hide H11.out.2⟩
              case measure => simp [intOf]; omega
      · obtain ⟨P, hP⟩ : ∃ P, P = posN (x1, x2, x3) out := ⟨_, rfl⟩
        have HP := hide hP
        rw [← hP] at hple hend
        clear hP
        have hPlt : P < out.length := by omega
        clear hend hple
        go_wp2
        go_loopw [5] (fun v5 wr => ∃ n : Nat, v5 = .int .i64 n ∧ n ≤ P ∧ Hid (Below wo.heap.size wo wr)) (fun v5 _ => P - (intOf v5).toNat)
        case atStart => exact ⟨0, rfl, Nat.zero_le _, hide (Below.refl _ _)⟩
        case round =>
          obtain ⟨n, rfl, hn, HI⟩ := hrel
          obtain ⟨y, hy⟩ : ∃ y, out[n]? = some y := ⟨_, List.getElem?_eq_getElem (by omega)⟩
          obtain ⟨y1, y2, y3⟩ := y
          have hlab := HM.out.1 (y1, y2, y3) (List.mem_of_getElem? hy)
          have hcall := cmpR_grow (y1, y2, y3) (x1, x2, x3) hlab
          obtain ⟨g, hg, hg1, hg2, hRn⟩ := HR.out.2.2.1 n (y1, y2, y3) hy
          subst hg
          have HG := hide (And.intro hRn hg2)
          have HY := hide hy
          clear hRn hg1 hg2 hlab hy
          have z2 : (n : Int) < (out.length : Int) := by omega
          have z3 : ¬ (n : Int) < 0 := by omega
          obtain ⟨e0, e1, e2⟩ := (HG.out.1.below HI.out HG.out.2).at HY.out
          obtain ⟨f0, f1, f2⟩ := (HR.out.2.1.below HI.out (Nat.lt_of_lt_of_le HR.out.1 hsz)).at HX.out.1
          simp only [Nat.zero_add] at e0 e1 e2 f0 f1 f2
          have b1 : g < wr.heap.size := Nat.lt_of_lt_of_le HG.out.2 HI.out.size
          have b2 : b < wr.heap.size := Nat.lt_of_lt_of_le HR.out.1 (Nat.le_trans hsz HI.out.size)
          have E0 := fun nn os => cell_grown b1 e0 nn os
          have E1 := fun nn os => cell_grown b1 e1 nn os
          have E2 := fun nn os => cell_grown b1 e2 nn os
          have F0 := fun nn os => cell_grown b2 f0 nn os
          have F1 := fun nn os => cell_grown b2 f1 nn os
          have F2 := fun nn os => cell_grown b2 f2 nn os
          clear e0 e1 e2 f0 f1 f2 b1 b2
          by_cases hnp : n < P
          · have hC := posN_lt (x1, x2, x3) out n (y1, y2, y3) HY.out (by rw [← HP.out]; exact hnp)
            rw [hC] at hcall
            simp only at hcall
            clear hC
            go_upto_region 6 with fail
            go_quiet_grown (first | (go_at_call 53; refine Calls.grown_of (hcall _)) | (refine Calls.grown_of (hcall _)))
            have H9 := hide (HI.out.trans (belG wo.heap.size wr nq osq HI.out.size))
            clear E0 E1 E2 F0 F1 F2 hcall
            go_wp2
            go_roundw
            case rel => exact ⟨n + 1, by go_num, by omega, hide H9.out⟩
            case measure => simp [intOf]; omega
          · have hnP : n = posN (x1, x2, x3) out := by rw [← HP.out]; omega
            have hCn : cfN (y1, y2, y3) (x1, x2, x3) ≠ -1 := posN_at (x1, x2, x3) out (y1, y2, y3) (by rw [← hnP]; exact HY.out)
            have HN := hide hnP
            clear hnP
            by_cases hC : cfN (y1, y2, y3) (x1, x2, x3) = 0
            · have HC := hide hC
              rw [hC] at hcall
              simp only at hcall
              go_upto_region 6 with fail
              go_quiet_grown (first | (go_at_call 53; refine Calls.grown_of (hcall _)) | (refine Calls.grown_of (hcall _)))
              have hq8 := HI.out.trans (belG wo.heap.size wr nq osq HI.out.size)
              clear E0 E1 E2 F0 F1 F2
              generalize Go.Sort.grow (wr.drewN nq) osq = wq at hq8 ⊢
              have HQ := hide hq8
              clear hq8
              go_upto_region 8 with fail
              obtain ⟨e0, e1, e2⟩ := (HG.out.1.below HQ.out HG.out.2).at HY.out
              obtain ⟨f0, f1, f2⟩ := (HR.out.2.1.below HQ.out (Nat.lt_of_lt_of_le HR.out.1 hsz)).at HX.out.1
              simp only [Nat.zero_add] at e0 e1 e2 f0 f1 f2
              have b1 : g < wq.heap.size := Nat.lt_of_lt_of_le HG.out.2 HQ.out.size
              have b2 : b < wq.heap.size := Nat.lt_of_lt_of_le HR.out.1 (Nat.le_trans hsz HQ.out.size)
              have E0 := fun nn os => cell_grown b1 e0 nn os
              have E1 := fun nn os => cell_grown b1 e1 nn os
              have E2 := fun nn os => cell_grown b1 e2 nn os
              have F0 := fun nn os => cell_grown b2 f0 nn os
              have F1 := fun nn os => cell_grown b2 f1 nn os
              have F2 := fun nn os => cell_grown b2 f2 nn os
              clear e0 e1 e2 f0 f1 f2 b1 b2
              go_quiet_grown (first | (go_at_call 53; refine Calls.grown_of (hcall _)) | (refine Calls.grown_of (hcall _)))
              have hq9 := HQ.out.trans (belG wo.heap.size wq nq osq HQ.out.size)
              clear E0 E1 E2 F0 F1 F2 hcall
              generalize Go.Sort.grow (wq.drewN nq) osq = wz at hq9 ⊢
              have HZ := hide hq9
              clear hq9
              have hfin : insAll [] (L.take (i + 1)) = out := by
                rw [HX.out.2]
                exact insN_there _ _ (by rw [← HN.out, HY.out, ord_N.eq _ _ HC.out])
              have H9 : Hid (On wz w.heap.size (.slice (some ⟨g, 0, none⟩) out.length c3) (insAll [] (L.take (i + 1))) ∧ Below w.heap.size w wz) := hide ⟨by rw [hfin]; exact HO.out.below HZ.out, HW.out.trans (HZ.out.mono hsz)⟩
              clear hfin
              go_wp2
              go_roundw
              case rel => exact ⟨i + 1, by go_num, by omega, hide H9.out.1, hide H9.out.2⟩
              case measure => simp [intOf]; omega
            · have hC : cfN (y1, y2, y3) (x1, x2, x3) = 1 := by
                have := ord_N.range (y1, y2, y3) (x1, x2, x3)
                omega
              have HC := hide hC
              rw [hC] at hcall
              simp only at hcall
              go_upto_region 6 with fail
              go_quiet_grown (first | (go_at_call 53; refine Calls.grown_of (hcall _)) | (refine Calls.grown_of (hcall _)))
              have hq8 := HI.out.trans (belG wo.heap.size wr nq osq HI.out.size)
              clear E0 E1 E2 F0 F1 F2
              generalize Go.Sort.grow (wr.drewN nq) osq = wq at hq8 ⊢
              have HQ := hide hq8
              clear hq8
              go_upto_region 8 with fail
              obtain ⟨e0, e1, e2⟩ := (HG.out.1.below HQ.out HG.out.2).at HY.out
              obtain ⟨f0, f1, f2⟩ := (HR.out.2.1.below HQ.out (Nat.lt_of_lt_of_le HR.out.1 hsz)).at HX.out.1
              simp only [Nat.zero_add] at e0 e1 e2 f0 f1 f2
              have b1 : g < wq.heap.size := Nat.lt_of_lt_of_le HG.out.2 HQ.out.size
              have b2 : b < wq.heap.size := Nat.lt_of_lt_of_le HR.out.1 (Nat.le_trans hsz HQ.out.size)
              have E0 := fun nn os => cell_grown b1 e0 nn os
              have E1 := fun nn os => cell_grown b1 e1 nn os
              have E2 := fun nn os => cell_grown b1 e2 nn os
              have F0 := fun nn os => cell_grown b2 f0 nn os
              have F1 := fun nn os => cell_grown b2 f1 nn os
              have F2 := fun nn os => cell_grown b2 f2 nn os
              clear e0 e1 e2 f0 f1 f2 b1 b2
              go_quiet_grown (first | (go_at_call 53; refine Calls.grown_of (hcall _)) | (refine Calls.grown_of (hcall _)))
              have hq9 := HQ.out.trans (belG wo.heap.size wq nq osq HQ.out.size)
              clear E0 E1 E2 F0 F1 F2 hcall
              generalize Go.Sort.grow (wq.drewN nq) osq = wz at hq9 ⊢
              have HZ := hide hq9
              clear hq9
              have hfin : insAll [] (L.take (i + 1)) = out.take n ++ [(x1, x2, x3)] ++ out.drop n := by
                rw [HX.out.2, HN.out]
                exact insN_new _ _ (by
                  rw [← HN.out, HY.out]
                  intro e
                  injection e with e
                  have := HC.out
                  rw [e, ord_N.refl] at this
                  omega)
              have HF := hide hfin
              clear hfin
              go_upto_region 9 with fail
              obtain ⟨hro, hspot, hzc⟩ := HO.out.rno
              have hOz := hro.below HZ.out
              have hc3 : out.length ≤ c3 := HR.out.2.2.2.2
              have hnl : n ≤ out.length := by omega
              obtain ⟨A1, r1, q1, m1⟩ := slice_hi hOz hnl hc3 hspot
              obtain ⟨A2, r2, q2, m2⟩ := slice_lo hOz hnl hc3 hspot
              obtain ⟨f0, f1, f2⟩ := (HR.out.2.1.below HZ.out (Nat.lt_of_lt_of_le HR.out.1 hsz)).at HX.out.1
              simp only at f0 f1 f2
              have hbz : b < wz.heap.size := Nat.lt_of_lt_of_le HR.out.1 (Nat.le_trans hsz HZ.out.size)
              have hl1 : (out.take n).length = n := by rw [List.length_take]; omega
              have hl2 : (out.drop n).length = out.length - n := by rw [List.length_drop]
              have hap1 : ∀ W, Below wz.heap.size wz W → ∃ v9 w9, (Builtin.append_ #[81, 81] 81 #[.slice none 0 0, .slice A1 n c3]).run Tryz.prog W = .ok v9 w9 ∧ On w9 wz.heap.size v9 (out.take n) ∧ Below W.heap.size W w9 := fun W hW => by
                obtain ⟨a', c', w', h1, h2, h3⟩ := app_names (On.nil W W.heap.size) (fun e => hzc (m1 e)) (q1.below hW) (by simp; omega) (Nat.le_refl _)
                rw [hl1] at h1
                exact ⟨_, w', h1, h2.base hW.size, h3⟩
              have hap2 : ∀ (W : World) (v : Value) (R : Nat), Below wz.heap.size wz W → On W wz.heap.size v (out.take n) → RnO W (some ⟨R, 0, none⟩) [(x1, x2, x3)] → ∃ v9 w9, (Builtin.append_ #[81, 81] 81 #[v, .slice (some ⟨R, 0, none⟩) 1 1]).run Tryz.prog W = .ok v9 w9 ∧ On w9 wz.heap.size v9 (out.take n ++ [(x1, x2, x3)]) ∧ Below wz.heap.size W w9 := fun W v R hW ho hr => by
                obtain ⟨a', c', w', h1, h2, h3⟩ := app_names (c := 1) ho (by simp) hr (by simp; omega) hW.size
                exact ⟨_, w', h1, h2, h3⟩
              have hap3 : ∀ (W : World) (v : Value), Below wz.heap.size wz W → On W wz.heap.size v (out.take n ++ [(x1, x2, x3)]) → ∃ v9 w9, (Builtin.append_ #[81, 81] 81 #[v, .slice A2 (out.length - n) (c3 - n)]).run Tryz.prog W = .ok v9 w9 ∧ On w9 wz.heap.size v9 (out.take n ++ [(x1, x2, x3)] ++ out.drop n) ∧ Below wz.heap.size W w9 := fun W v hW ho => by
                obtain ⟨a', c', w', h1, h2, h3⟩ := app_names (c := c3 - n) ho (fun e => by rw [hzc (m2 e)]; simp) (q2.below hW) (by simp; omega) hW.size
                rw [hl2] at h1
                exact ⟨_, w', h1, h2, h3⟩
              clear hro hOz q1 q2 m1 m2 hl1 hl2 hspot hzc
              refine wp_region_held_drew (S := (fun w' => Below wz.heap.size wz w')) (by kernel_rfl) (by exact (Below.refl _ wz).drew) (fun hHeld => ?_)
              try dsimp only at hHeld
              generalize wz.drew = W1 at hHeld ⊢
              refine take_op (i := 0) (d := 46) (OP := Op.move (Operand.tmp 3)) (T := 81) (v := ?vy9x) rfl rfl rfl rfl (by kernel_rfl) (by kernel_rfl) (by kernel_rfl) (fun _ _ _ h => h) (by rfl) ?hy9x hHeld ?ry9x
              case hy9x => (intro w' hSw; (try dsimp only at hSw); go_simp <;> with_reducible rfl)
              try simp only [Act.put, List.setIfInBounds_toArray, List.set_cons_zero, List.set_cons_succ]
              refine take_op (i := 1) (d := 47) (OP := Op.move (Operand.tmp 5)) (T := 3) (v := ?vy10x) rfl rfl rfl rfl (by kernel_rfl) (by kernel_rfl) (by kernel_rfl) (fun _ _ _ h => h) (by rfl) ?hy10x hHeld ?ry10x
              case hy10x => (intro w' hSw; (try dsimp only at hSw); go_simp <;> with_reducible rfl)
              try simp only [Act.put, List.setIfInBounds_toArray, List.set_cons_zero, List.set_cons_succ]
              refine take_op (i := 2) (d := 48) (OP := Op.slice 81 (Operand.tmp 46) none (some (Operand.tmp 47)) none) (T := 81) (v := .slice A1 n c3) rfl rfl rfl rfl (by kernel_rfl) (by kernel_rfl) (by kernel_rfl) (fun _ _ _ h => h) (by rfl) (fun w' _ => exec_slhi rfl rfl (r1 w')) hHeld ?_
              try simp only [Act.put, List.setIfInBounds_toArray, List.set_cons_zero, List.set_cons_succ]
              refine take_op (i := 4) (d := 50) (OP := Op.move (Operand.tmp 0)) (T := 81) (v := ?vy11x) rfl rfl rfl rfl (by kernel_rfl) (by kernel_rfl) (by kernel_rfl) (fun _ _ _ h => h) (by rfl) ?hy11x hHeld ?ry11x
              case hy11x => (intro w' hSw; (try dsimp only at hSw); go_simp <;> with_reducible rfl)
              try simp only [Act.put, List.setIfInBounds_toArray, List.set_cons_zero, List.set_cons_succ]
              refine take_op (i := 5) (d := 51) (OP := Op.move (Operand.tmp 4)) (T := 3) (v := ?vy12x) rfl rfl rfl rfl (by kernel_rfl) (by kernel_rfl) (by kernel_rfl) (fun _ _ _ h => h) (by rfl) ?hy12x hHeld ?ry12x
              case hy12x => (intro w' hSw; (try dsimp only at hSw); go_simp <;> with_reducible rfl)
              try simp only [Act.put, List.setIfInBounds_toArray, List.set_cons_zero, List.set_cons_succ]
              refine take_op (i := 6) (d := 52) (OP := Op.indexAddr 81 (Operand.tmp 50) (Operand.tmp 51)) (T := 0) (v := .pointer (some ⟨b, off + i * 3, none⟩)) rfl rfl rfl rfl (by kernel_rfl) (by kernel_rfl) (by kernel_rfl) (fun _ _ _ h => h) (by rfl) (fun w' _ => exec_ixN rfl rfl z1) hHeld ?_
              try simp only [Act.put, List.setIfInBounds_toArray, List.set_cons_zero, List.set_cons_succ]
              refine take_op (i := 7) (d := 53) (OP := Op.load 25 (Operand.tmp 52)) (T := 25) (v := .agg #[.int .i64 x1, .string x2, .int .i64 x3]) rfl rfl rfl rfl (by kernel_rfl) (by kernel_rfl) (by kernel_rfl) (fun _ _ _ h => h) (by rfl) (fun w' hSw => exec_ldN rfl ((hSw.cell hbz).trans f0) ((hSw.cell hbz).trans f1) ((hSw.cell hbz).trans f2)) hHeld ?_
              try simp only [Act.put, List.setIfInBounds_toArray, List.set_cons_zero, List.set_cons_succ]
              refine take_op (i := 10) (d := 56) (OP := Op.move (Operand.tmp 3)) (T := 81) (v := ?vy13x) rfl rfl rfl rfl (by kernel_rfl) (by kernel_rfl) (by kernel_rfl) (fun _ _ _ h => h) (by rfl) ?hy13x hHeld ?ry13x
              case hy13x => (intro w' hSw; (try dsimp only at hSw); go_simp <;> with_reducible rfl)
              try simp only [Act.put, List.setIfInBounds_toArray, List.set_cons_zero, List.set_cons_succ]
              refine take_op (i := 11) (d := 57) (OP := Op.move (Operand.tmp 5)) (T := 3) (v := ?vy14x) rfl rfl rfl rfl (by kernel_rfl) (by kernel_rfl) (by kernel_rfl) (fun _ _ _ h => h) (by rfl) ?hy14x hHeld ?ry14x
              case hy14x => (intro w' hSw; (try dsimp only at hSw); go_simp <;> with_reducible rfl)
              try simp only [Act.put, List.setIfInBounds_toArray, List.set_cons_zero, List.set_cons_succ]
              refine take_op (i := 12) (d := 58) (OP := Op.slice 81 (Operand.tmp 56) (some (Operand.tmp 57)) none none) (T := 81) (v := .slice A2 (out.length - n) (c3 - n)) rfl rfl rfl rfl (by kernel_rfl) (by kernel_rfl) (by kernel_rfl) (fun _ _ _ h => h) (by rfl) (fun w' _ => exec_sllo rfl rfl (r2 w')) hHeld ?_
              try simp only [Act.put, List.setIfInBounds_toArray, List.set_cons_zero, List.set_cons_succ]
              obtain ⟨v9, w9, run9, hO9, b9⟩ := hap1 W1 hHeld
              have hS9 : Below wz.heap.size wz w9 := hHeld.trans (b9.mono hHeld.size)
              have hSl : Below wz.heap.size wz (W1.alloc (.cells #[.int .i64 x1, .string x2, .int .i64 x3] 25)) := hHeld.alloc hHeld.size _
              refine turns_op (i := 3) (di := 49) (OPi := Op.call { callee := Callee.builtin Builtin.append, args := #[Operand.const (Value.slice none 0 0), Operand.tmp 48], argTypes := #[81, 81] }) (Ti := 81) (j := 8) (dj := 54) (OPj := Op.buildSlice 81 1 #[(0, Operand.tmp 53)]) (Tj := 81) (v := v9) (w1 := w9) (u := .slice (some ⟨W1.heap.size, 0, none⟩) 1 1) (w2 := W1.alloc (.cells #[.int .i64 x1, .string x2, .int .i64 x3] 25)) rfl rfl rfl rfl rfl rfl rfl rfl (by kernel_rfl) (by rfl) (by rfl) (exec_append rfl rfl run9) (exec_bsN rfl) hS9 hSl ?_ ?_
              · try simp only [Act.put, List.setIfInBounds_toArray, List.set_cons_zero, List.set_cons_succ]
                replace hHeld := hS9
                have hS8 : Below wz.heap.size wz (w9.alloc (.cells #[.int .i64 x1, .string x2, .int .i64 x3] 25)) := hHeld.alloc hHeld.size _
                refine turn_op (i := 8) (d := 54) (OP := Op.buildSlice 81 1 #[(0, Operand.tmp 53)]) (T := 81) (v := .slice (some ⟨w9.heap.size, 0, none⟩) 1 1) (w' := w9.alloc (.cells #[.int .i64 x1, .string x2, .int .i64 x3] 25)) rfl rfl rfl rfl (by kernel_rfl) (by rfl) (exec_bsN rfl) hS8 ?_
                replace hHeld := hS8
                try simp only [Act.put, List.setIfInBounds_toArray, List.set_cons_zero, List.set_cons_succ]
                obtain ⟨v10, w10, run10, hO10, b10⟩ := hap2 (w9.alloc (.cells #[.int .i64 x1, .string x2, .int .i64 x3] 25)) _ w9.heap.size hHeld (hO9.below (below_new w9 (.cells #[.int .i64 x1, .string x2, .int .i64 x3] 25))) (one_rno w9 (x1, x2, x3))
                have hS10 := hHeld.trans b10
                refine turn_op (i := 9) (d := 55) (OP := Op.call { callee := Callee.builtin Builtin.append, args := #[Operand.tmp 49, Operand.tmp 54], argTypes := #[81, 81] }) (T := 81) (v := v10) (w' := w10) rfl rfl rfl rfl (by kernel_rfl) (by rfl) (exec_append rfl rfl run10) hS10 ?_
                replace hHeld := hS10
                try simp only [Act.put, List.setIfInBounds_toArray, List.set_cons_zero, List.set_cons_succ]
                obtain ⟨v11, w11, run11, hO11, b11⟩ := hap3 w10 _ hHeld hO10
                have hS11 := hHeld.trans b11
                refine turn_op (i := 13) (d := 59) (OP := Op.call { callee := Callee.builtin Builtin.append, args := #[Operand.tmp 55, Operand.tmp 58], argTypes := #[81, 81] }) (T := 81) (v := v11) (w' := w11) rfl rfl rfl rfl (by kernel_rfl) (by rfl) (exec_append rfl rfl run11) hS11 ?_
                replace hHeld := hS11
                try simp only [Act.put, List.setIfInBounds_toArray, List.set_cons_zero, List.set_cons_succ]
                refine take_op (i := 14) (d := 3) (OP := Op.assign (Operand.tmp 59)) (T := 81) (v := ?vy15x) rfl rfl rfl rfl (by kernel_rfl) (by kernel_rfl) (by kernel_rfl) (fun _ _ _ h => h) (by rfl) ?hy15x hHeld ?ry15x
                case hy15x => (intro w' hSw; (try dsimp only at hSw); go_simp <;> with_reducible rfl)
                try simp only [Act.put, List.setIfInBounds_toArray, List.set_cons_zero, List.set_cons_succ]
                refine wpAnyH_done (by kernel_rfl) ?_ _
                have H11 : Hid (On w11 w.heap.size v11 (insAll [] (L.take (i + 1))) ∧ Below w.heap.size w w11) := hide ⟨by rw [HF.out]; exact hO11.base (Nat.le_trans hsz HZ.out.size), (HW.out.trans (HZ.out.mono hsz)).trans (hS11.mono (Nat.le_trans hsz HZ.out.size))⟩
                clear hap1 hap2 hap3 r1 r2 f0 f1 f2 hO9 b9 run9 hO10 run10 b10 hO11 run11 b11
                go_wp2
                go_roundw
                case rel => exact ⟨i + 1, by go_num, by omega, hide H11.out.1, hide H11.out.2⟩
                case measure => simp [intOf]; omega
              · try simp only [Act.put, List.setIfInBounds_toArray, List.set_cons_zero, List.set_cons_succ]
                clear run9 hO9 b9 hS9 v9 w9
                replace hHeld := hSl
                obtain ⟨v9, w9, run9, hO9, b9⟩ := hap1 _ hHeld
                have hS9 : Below wz.heap.size wz w9 := hHeld.trans (b9.mono hHeld.size)
                refine turn_op (i := 3) (d := 49) (OP := Op.call { callee := Callee.builtin Builtin.append, args := #[Operand.const (Value.slice none 0 0), Operand.tmp 48], argTypes := #[81, 81] }) (T := 81) (v := v9) (w' := w9) rfl rfl rfl rfl (by kernel_rfl) (by rfl) (exec_append rfl rfl run9) hS9 ?_
                replace hHeld := hS9
                try simp only [Act.put, List.setIfInBounds_toArray, List.set_cons_zero, List.set_cons_succ]
                obtain ⟨v10, w10, run10, hO10, b10⟩ := hap2 w9 _ W1.heap.size hHeld hO9 ((one_rno W1 (x1, x2, x3)).below b9)
                have hS10 := hHeld.trans b10
                refine turn_op (i := 9) (d := 55) (OP := Op.call { callee := Callee.builtin Builtin.append, args := #[Operand.tmp 49, Operand.tmp 54], argTypes := #[81, 81] }) (T := 81) (v := v10) (w' := w10) rfl rfl rfl rfl (by kernel_rfl) (by rfl) (exec_append rfl rfl run10) hS10 ?_
                replace hHeld := hS10
                try simp only [Act.put, List.setIfInBounds_toArray, List.set_cons_zero, List.set_cons_succ]
                obtain ⟨v11, w11, run11, hO11, b11⟩ := hap3 w10 _ hHeld hO10
                have hS11 := hHeld.trans b11
                refine turn_op (i := 13) (d := 59) (OP := Op.call { callee := Callee.builtin Builtin.append, args := #[Operand.tmp 55, Operand.tmp 58], argTypes := #[81, 81] }) (T := 81) (v := v11) (w' := w11) rfl rfl rfl rfl (by kernel_rfl) (by rfl) (exec_append rfl rfl run11) hS11 ?_
                replace hHeld := hS11
                try simp only [Act.put, List.setIfInBounds_toArray, List.set_cons_zero, List.set_cons_succ]
                refine take_op (i := 14) (d := 3) (OP := Op.assign (Operand.tmp 59)) (T := 81) (v := ?vy16x) rfl rfl rfl rfl (by kernel_rfl) (by kernel_rfl) (by kernel_rfl) (fun _ _ _ h => h) (by rfl) ?hy16x hHeld ?ry16x
                case hy16x => (intro w' hSw; (try dsimp only at hSw); go_simp <;> with_reducible rfl)
                try simp only [Act.put, List.setIfInBounds_toArray, List.set_cons_zero, List.set_cons_succ]
                refine wpAnyH_done (by kernel_rfl) ?_ _
                have H11 : Hid (On w11 w.heap.size v11 (insAll [] (L.take (i + 1))) ∧ Below w.heap.size w w11) := hide ⟨by rw [HF.out]; exact hO11.base (Nat.le_trans hsz HZ.out.size), (HW.out.trans (HZ.out.mono hsz)).trans (hS11.mono (Nat.le_trans hsz HZ.out.size))⟩
                clear hap1 hap2 hap3 r1 r2 f0 f1 f2 hO9 b9 run9 hO10 run10 b10 hO11 run11 b11
                go_wp2
                go_roundw
                case rel => exact ⟨i + 1, by go_num, by omega, hide H11.out.1, hide H11.out.2⟩
                case measure => simp [intOf]; omega
    · have z1 : ¬ (i : Int) < (L.length : Int) := by omega
      have hE : L.take i = L := List.take_of_length_le (by omega)
      have HE := hide hE
      clear hE
      go_wp2
      go_ret
      exact ⟨_, rfl, by have h4 := HO.out; rw [HE.out] at h4; exact h4, HW.out⟩
end Go.Proofs.YtkjabnpniingnaaGreatDoor
