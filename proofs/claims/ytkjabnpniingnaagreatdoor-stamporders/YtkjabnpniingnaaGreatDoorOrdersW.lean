/-
  ORDERSW: StampOrders' walk.
-/
import Derived.Test.YtkjabnpniingnaaGreatDoorRefSo
import Derived.Test.YtkjabnpniingnaaGreatDoorKnown
import Derived.Test.YtkjabnpniingnaaGreatDoorRefPut
import Derived.Deep.DeepCutAuto
import Derived.Deep.CutBlock
import Derived.BigCall
import Derived.BigGuard
import Derived.BigGuardPart
import Derived.BigRegion
namespace Go.Proofs.YtkjabnpniingnaaGreatDoor
open Go.RowKit Go.Shelf Go.Sort
set_option linter.unusedSimpArgs false

abbrev Sm := Int × Int × ByteArray × Int × Int
def encS (x : Sm) : List Value := [.int .i64 x.1, .int .i64 x.2.1, .string x.2.2.1, .int .i64 x.2.2.2.1, .int .i64 x.2.2.2.2]
theorem one_grow (w : World) : Calls Tryz.prog 56 #[] w fun e w' => e = .returned (.agg #[.int .i64 5, .int .i64 1, .string mainS, .int .i64 3, .int .i64 0]) ∧ ∃ q os', w' = Go.Sort.grow (w.drewN q) os' := by
  go_enter Tryz.func56, Tryz.ntmps56
  go_wp2
  refine ret_row w.heap.size [.int .i64 5, .int .i64 1, .string mainS, .int .i64 3, .int .i64 0] rfl rfl Tryz.underlying27 rfl (by kernel_rfl) (t := 27) (fr := (0, 0)) ?_ rfl ?_
  · exact heap_alloc_new w _
  · exact ⟨rfl, (belowG_new w _).grows⟩
theorem slice_own {g n m cap : Nat} (hn : n ≤ m) (hc : m ≤ cap) (h0 : 0 < cap) (w' : World) : (Instr.slice 81 (.slice (some ⟨g, 0, none⟩) m cap) none (some (.int .i64 n)) none).run Tryz.prog w' = .ok (.slice (some ⟨g, 0, none⟩) n cap) w' := by
  have h2 : (0 : Int) ≤ (n : Int) ∧ (n : Int) ≤ (cap : Int) := by omega
  have h3 : cap ≠ 0 := by omega
  simp [Instr.slice, Instr.sliceBounds, Instr.sliceBound, asIntOf, run_underlying Tryz.underlying81, go_sem, show n ≤ cap by omega, Tryz.sizeOf25, h3, Addr.add]
set_option maxHeartbeats 4000000 in
set_option maxRecDepth 100000 in
theorem orders_walk (a0 a1 a2 : Sm) (ao : Option Addr) (c : Nat) (L : List Nm) (w : World) (hE : EnvE w) (h : ∀ (k : Nat) (x : Nm), L[k]? = some x → ∃ b off, ao = some ⟨b, off, none⟩ ∧ b < w.heap.size ∧ Rn w b off L) (hc : ao = none → c = 0 ∧ L = []) (hlab : ∀ x ∈ L, x.2.1.size ≤ 9223372036854775807) (h0 : a0.2.2.1.size ≤ 9223372036854775807) (h1 : a1.2.2.1.size ≤ 9223372036854775807) (h2 : a2.2.2.1.size ≤ 9223372036854775807) :
    Calls Tryz.prog 6 #[.agg #[.int .i64 a0.1, .int .i64 a0.2.1, .string a0.2.2.1, .int .i64 a0.2.2.2.1, .int .i64 a0.2.2.2.2, .int .i64 a1.1, .int .i64 a1.2.1, .string a1.2.2.1, .int .i64 a1.2.2.2.1, .int .i64 a1.2.2.2.2, .int .i64 a2.1, .int .i64 a2.2.1, .string a2.2.2.1, .int .i64 a2.2.2.2.1, .int .i64 a2.2.2.2.2], .slice ao L.length c] w fun e w' => e = .returned (.bool true) ∧ Below w.heap.size w w' := by
  have mixed : Tryz.prog.follows .mixedOrders = true := by kernel_rfl
  have HA := hide (And.intro hE (And.intro h (And.intro hc (And.intro hlab (And.intro h0 (And.intro h1 h2))))))
  clear hE h hc hlab h0 h1 h2
  obtain ⟨W0, hW0⟩ : ∃ W0, W0 = w.alloc (.cells #[.int .i64 a0.1, .int .i64 a0.2.1, .string a0.2.2.1, .int .i64 a0.2.2.2.1, .int .i64 a0.2.2.2.2, .int .i64 a1.1, .int .i64 a1.2.1, .string a1.2.2.1, .int .i64 a1.2.2.2.1, .int .i64 a1.2.2.2.2, .int .i64 a2.1, .int .i64 a2.2.1, .string a2.2.2.1, .int .i64 a2.2.2.2.1, .int .i64 a2.2.2.2.2] 80) := ⟨_, rfl⟩
  have hb0 : Below w.heap.size w W0 := by rw [hW0]; exact below_new w _
  have hk : ∀ W, Below w.heap.size w W → Calls Tryz.prog 9 #[] W fun e w' => e = .returned (.bool true) ∧ Below W.heap.size W w' := fun W hW => known_any W (HA.out.1.below hW)
  by_cases hbig : 300 < L.length
  · have z1 : (300 : Int) < (L.length : Int) := by omega
    have HB := hide hb0
    have HW0 := hide hW0
    clear hb0 hW0
    go_enter Tryz.func6, Tryz.ntmps6
    go_upto_region 1 with fail
    rw [← HW0.out]
    go_wp2_with (go_at_call 9; refine (hk _ HB.out).mono ?_; rintro e w' ⟨rfl, hb⟩)
    go_ret
    exact ⟨rfl, HB.out.trans (hb.mono HB.out.size)⟩
  · have z1 : ¬ (300 : Int) < (L.length : Int) := by omega
    have HB := hide hb0
    have HW0 := hide hW0
    clear hb0 hW0
    go_enter Tryz.func6, Tryz.ntmps6
    go_upto_region 1 with fail
    rw [← HW0.out]
    have HS : Hid (∀ i, i < 3 → ∃ (g r : Int) (l : ByteArray) (n x : Int), l.size ≤ 9223372036854775807 ∧ W0.cell? ⟨w.heap.size, i * 5, none⟩ = some (.int .i64 g) ∧ W0.cell? ⟨w.heap.size, i * 5 + 1, none⟩ = some (.int .i64 r) ∧ W0.cell? ⟨w.heap.size, i * 5 + 2, none⟩ = some (.string l) ∧ W0.cell? ⟨w.heap.size, i * 5 + 3, none⟩ = some (.int .i64 n) ∧ W0.cell? ⟨w.heap.size, i * 5 + 4, none⟩ = some (.int .i64 x)) := hide (fun i hi => by
      have hh := heap_alloc_new w (.cells #[.int .i64 a0.1, .int .i64 a0.2.1, .string a0.2.2.1, .int .i64 a0.2.2.2.1, .int .i64 a0.2.2.2.2, .int .i64 a1.1, .int .i64 a1.2.1, .string a1.2.2.1, .int .i64 a1.2.2.2.1, .int .i64 a1.2.2.2.2, .int .i64 a2.1, .int .i64 a2.2.1, .string a2.2.2.1, .int .i64 a2.2.2.2.1, .int .i64 a2.2.2.2.2] 80)
      rw [← HW0.out] at hh
      have hc := fun j => cell_of_row W0 w.heap.size j _ 80 (0, 0) hh
      obtain ⟨_, _, _, _, s0, s1, s2⟩ := HA.out
      match i, hi with
      | 0, _ => exact ⟨a0.1, a0.2.1, a0.2.2.1, a0.2.2.2.1, a0.2.2.2.2, s0, by rw [hc]; rfl, by rw [hc]; rfl, by rw [hc]; rfl, by rw [hc]; rfl, by rw [hc]; rfl⟩
      | 1, _ => exact ⟨a1.1, a1.2.1, a1.2.2.1, a1.2.2.2.1, a1.2.2.2.2, s1, by rw [hc]; rfl, by rw [hc]; rfl, by rw [hc]; rfl, by rw [hc]; rfl, by rw [hc]; rfl⟩
      | 2, _ => exact ⟨a2.1, a2.2.1, a2.2.2.1, a2.2.2.2.1, a2.2.2.2.2, s2, by rw [hc]; rfl, by rw [hc]; rfl, by rw [hc]; rfl, by rw [hc]; rfl, by rw [hc]; rfl⟩)
    have HL0 : Hid (w.heap.size < W0.heap.size) := hide (by rw [HW0.out]; simp)
    go_wp2_with (fail)
    go_loopw [5] (fun v5 wr => ∃ i : Nat, v5 = .int .i64 i ∧ i ≤ 3 ∧ Hid (Below W0.heap.size W0 wr)) (fun v5 _ => 3 - (intOf v5).toNat)
    case atStart => exact ⟨0, rfl, by omega, hide (Below.refl _ _)⟩
    case round =>
      obtain ⟨i, rfl, hi3, HI⟩ := hrel
      obtain ⟨wo, hwo⟩ : ∃ wo, wo = wr := ⟨_, rfl⟩
      subst hwo
      by_cases hgi : i < 3
      · have y1 : (i : Int) < 3 := by omega
        go_wp2_with (fail)
        go_loopw [6] (fun v6 wr => ∃ k : Nat, v6 = .int .i64 k ∧ k ≤ 3 ∧ Hid (Below W0.heap.size W0 wr)) (fun v6 _ => 3 - (intOf v6).toNat)
        case atStart => exact ⟨0, rfl, by omega, HI⟩
        case round =>
          obtain ⟨k, rfl, hk3, HK⟩ := hrel
          by_cases hgk : k < 3
          · have y2 : (k : Int) < 3 := by omega
            obtain ⟨g, r, l, n, x, hl, c0, c1, c2, c3, c4⟩ := HS.out i hgi
            obtain ⟨g', r', l', n', x', hl', d0, d1, d2, d3, d4⟩ := HS.out k hgk
            have hcell : ∀ (j : Nat) (v : Value), W0.cell? ⟨w.heap.size, j, none⟩ = some v → wr.cell? ⟨w.heap.size, j, none⟩ = some v := fun j v hv => (HK.out.cell HL0.out).trans hv
            replace c0 := hcell _ _ c0; replace c1 := hcell _ _ c1; replace c2 := hcell _ _ c2; replace c3 := hcell _ _ c3; replace c4 := hcell _ _ c4
            replace d0 := hcell _ _ d0; replace d1 := hcell _ _ d1; replace d2 := hcell _ _ d2; replace d3 := hcell _ _ d3; replace d4 := hcell _ _ d4
            clear hcell
            have hA1 : ∀ (p : Addr) (v : Value) (o1 : Obj), wr.cell? p = some v → (wr.alloc o1).cell? p = some v := fun p v o1 hp => (Below.cell ((Below.refl _ wr).alloc (Nat.le_refl _) o1) (World.block_lt_of_cell? _ _ hp)).trans hp
            have hA2 : ∀ (p : Addr) (v : Value) (o1 o2 : Obj), wr.cell? p = some v → ((wr.alloc o1).alloc o2).cell? p = some v := fun p v o1 o2 hp => (Below.cell (((Below.refl _ wr).alloc (Nat.le_refl _) o1).alloc (by simp) o2) (World.block_lt_of_cell? _ _ hp)).trans hp
            have e10 := fun o1 => hA1 _ _ o1 c0
            have e20 := fun o1 o2 => hA2 _ _ o1 o2 c0
            have e11 := fun o1 => hA1 _ _ o1 c1
            have e21 := fun o1 o2 => hA2 _ _ o1 o2 c1
            have e12 := fun o1 => hA1 _ _ o1 c2
            have e22 := fun o1 o2 => hA2 _ _ o1 o2 c2
            have e13 := fun o1 => hA1 _ _ o1 c3
            have e23 := fun o1 o2 => hA2 _ _ o1 o2 c3
            have e14 := fun o1 => hA1 _ _ o1 c4
            have e24 := fun o1 o2 => hA2 _ _ o1 o2 c4
            have f10 := fun o1 => hA1 _ _ o1 d0
            have f20 := fun o1 o2 => hA2 _ _ o1 o2 d0
            have f11 := fun o1 => hA1 _ _ o1 d1
            have f21 := fun o1 o2 => hA2 _ _ o1 o2 d1
            have f12 := fun o1 => hA1 _ _ o1 d2
            have f22 := fun o1 o2 => hA2 _ _ o1 o2 d2
            have f13 := fun o1 => hA1 _ _ o1 d3
            have f23 := fun o1 o2 => hA2 _ _ o1 o2 d3
            have f14 := fun o1 => hA1 _ _ o1 d4
            have f24 := fun o1 o2 => hA2 _ _ o1 o2 d4
            clear hA1 hA2
            go_upto_region 9 with fail
            go_cut [7, 8] (fun v7 v8 wc => ∃ A B : Nat, v7 = .pointer (some ⟨A, 0, none⟩) ∧ v8 = .pointer (some ⟨B, 0, none⟩) ∧ Hid (wc.heap[A]? = some (.cells #[.int .i64 g, .int .i64 r, .string l, .int .i64 n, .int .i64 x] 27) ∧ wc.heap[B]? = some (.cells #[.int .i64 g', .int .i64 r', .string l', .int .i64 n', .int .i64 x'] 27) ∧ Below W0.heap.size W0 wc))
            case first =>
              have hn2 : ∀ o1 o2 : Obj, (((wr.alloc o1).alloc o2).drew.heap[wr.heap.size]? = some o1 ∧ ((wr.alloc o1).alloc o2).drew.heap[wr.heap.size + 1]? = some o2) ∧ Below W0.heap.size W0 ((wr.alloc o1).alloc o2).drew := fun o1 o2 => by
                obtain ⟨q1, q2⟩ := new2 wr o1 o2
                exact ⟨⟨q1, q2⟩, ((HK.out.alloc HK.out.size o1).alloc (Nat.le_trans HK.out.size (by simp)) o2).drew⟩
              have HN2 := hide hn2
              clear hn2
              go_region
              all_goals go_wp2
              all_goals go_meet
              all_goals exact ⟨_, _, rfl, rfl, hide ⟨by first | exact (HN2.out _ _).1.1 | exact (HN2.out _ _).1.2, by first | exact (HN2.out _ _).1.1 | exact (HN2.out _ _).1.2, (HN2.out _ _).2⟩⟩
            case rest =>
            clear e10 e20 c0 e11 e21 c1 e12 e22 c2 e13 e23 c3 e14 e24 c4 f10 f20 d0 f11 f21 d1 f12 f22 d2 f13 f23 d3 f14 f24 d4
            obtain ⟨A, B, rfl, rfl, HC⟩ := hcut
            obtain ⟨p0, p1, p2, p3, p4, _, _, _, _, _⟩ := blk5 HC.out.1
            obtain ⟨q0, q1, q2, q3, q4, _, _, _, _, _⟩ := blk5 HC.out.2.1
            have bA : A < wc.heap.size := (Array.getElem?_eq_some_iff.1 HC.out.1).1
            have bB : B < wc.heap.size := (Array.getElem?_eq_some_iff.1 HC.out.2.1).1
            have P0 := fun nn os => cell_grown bA p0 nn os
            have P1 := fun nn os => cell_grown bA p1 nn os
            have P2 := fun nn os => cell_grown bA p2 nn os
            have P3 := fun nn os => cell_grown bA p3 nn os
            have P4 := fun nn os => cell_grown bA p4 nn os
            have Q0 := fun nn os => cell_grown bB q0 nn os
            have Q1 := fun nn os => cell_grown bB q1 nn os
            have Q2 := fun nn os => cell_grown bB q2 nn os
            have Q3 := fun nn os => cell_grown bB q3 nn os
            have Q4 := fun nn os => cell_grown bB q4 nn os
            clear p0 p1 p2 p3 p4 q0 q1 q2 q3 q4 bA bB
            obtain ⟨VS, hVS⟩ : ∃ VS, VS = cmpS g r l n x g' r' l' n' x' := ⟨_, rfl⟩
            obtain ⟨VN, hVN⟩ : ∃ VN, VN = cmpS 0 r l n 0 0 r' l' n' 0 := ⟨_, rfl⟩
            obtain ⟨VB, hVB⟩ : ∃ VB, VB = cmpS 0 r l 0 0 0 r' l' 0 0 := ⟨_, rfl⟩
            have h50 : ∀ W, Calls Tryz.prog 50 #[sv g r l n x, sv g' r' l' n' x'] W fun e w' => e = .returned (.int .i64 VS) ∧ ∃ q os', w' = Go.Sort.grow (W.drewN q) os' := fun W => (cmpS_grow g r l n x g' r' l' n' x' W).mono fun _ _ ⟨he, hw⟩ => ⟨by rw [he, hVS], hw.grows⟩
            have h51 : ∀ W, Calls Tryz.prog 51 #[sv g r l n x, sv g' r' l' n' x'] W fun e w' => e = .returned (.int .i64 VS) ∧ ∃ q os', w' = Go.Sort.grow (W.drewN q) os' := fun W => (refCmpS_grow g r l n x g' r' l' n' x' W hl).mono fun _ _ ⟨he, hw⟩ => ⟨by rw [he, hVS, cmp_lexS], hw.grows⟩
            have h52 : ∀ W, Calls Tryz.prog 52 #[nv r l n, nv r' l' n'] W fun e w' => e = .returned (.int .i64 VN) ∧ ∃ q os', w' = Go.Sort.grow (W.drewN q) os' := fun W => (cmpN_grow r l n r' l' n' W).mono fun _ _ ⟨he, hw⟩ => ⟨by rw [he, hVN], hw.grows⟩
            have h53 : ∀ W, Calls Tryz.prog 53 #[nv r l n, nv r' l' n'] W fun e w' => e = .returned (.int .i64 VN) ∧ ∃ q os', w' = Go.Sort.grow (W.drewN q) os' := fun W => (refCmpN_grow r l n r' l' n' W hl).mono fun _ _ ⟨he, hw⟩ => ⟨by rw [he, hVN, cmp_lexN], hw.grows⟩
            have h54 : ∀ W, Calls Tryz.prog 54 #[bv r l, bv r' l'] W fun e w' => e = .returned (.int .i64 VB) ∧ ∃ q os', w' = Go.Sort.grow (W.drewN q) os' := fun W => (cmpB_grow r l r' l' W).mono fun _ _ ⟨he, hw⟩ => ⟨by rw [he, hVB], hw.grows⟩
            have h55 : ∀ W, Calls Tryz.prog 55 #[bv r l, bv r' l'] W fun e w' => e = .returned (.int .i64 VB) ∧ ∃ q os', w' = Go.Sort.grow (W.drewN q) os' := fun W => (refCmpB_grow r l r' l' W hl).mono fun _ _ ⟨he, hw⟩ => ⟨by rw [he, hVB, cmp_lexB], hw.grows⟩
            clear hVS hVN hVB hl hl'
            go_upto_region 10 with fail
            go_quiet_grown (first | (go_at_call 50; refine Calls.grown_of (h50 _)) | (go_at_call 51; refine Calls.grown_of (h51 _)) | (go_at_call 52; refine Calls.grown_of (h52 _)) | (go_at_call 53; refine Calls.grown_of (h53 _)) | (go_at_call 54; refine Calls.grown_of (h54 _)) | (go_at_call 55; refine Calls.grown_of (h55 _)))
            have H9 := hide (HC.out.2.2.trans (belG W0.heap.size wc nq osq HC.out.2.2.size))
            clear h50 h51 h52 h53 h54 h55 P0 P1 P2 P3 P4 Q0 Q1 Q2 Q3 Q4
            go_wp2
            go_roundw
            case rel => exact ⟨k + 1, by go_num, by omega, hide H9.out⟩
            case measure => simp [intOf]; omega
          · have y2 : ¬ (k : Int) < 3 := by omega
            go_wp2_with (fail)
            go_roundw
            case rel => exact ⟨i + 1, by go_num, by omega, HK⟩
            case measure => simp [intOf]; omega
      · have y1 : ¬ (i : Int) < 3 := by omega
        have hB1 : Below w.heap.size w wo := HB.out.trans (HI.out.mono HB.out.size)
        have hR1 : RnO wo ao L := by
          refine ⟨fun e => (HA.out.2.2.1 e).2, fun a ha j u hj => ?_⟩
          have hL : L ≠ [] := by intro e; rw [e] at hj; simp [flatN] at hj
          obtain ⟨x, hx⟩ : ∃ x, L[0]? = some x := ⟨_, List.getElem?_eq_getElem (List.length_pos_iff.2 hL)⟩
          obtain ⟨b, off, e, hb, hr⟩ := HA.out.2.1 0 x hx
          rw [ha] at e
          injection e with e
          subst e
          exact (RnO.ofRn (hr.below hB1 hb)).2 _ rfl j u hj
        obtain ⟨aa, ca, w1, run1, hO1, b1⟩ := app_names (On.nil wo wo.heap.size) (fun e => (HA.out.2.2.1 e).1) hR1 (by simp; omega) (Nat.le_refl _)
        rw [List.nil_append] at run1 hO1
        have hap2 : ∀ W2, Below w1.heap.size w1 W2 → ∃ g3 c3 w3 M, (Builtin.append_ #[81, 81] 81 #[.slice aa L.length ca, .slice (some ⟨W2.heap.size, 0, none⟩) 1 1]).run Tryz.prog (W2.alloc (.cells #[.int .i64 1, .string mainS, .int .i64 3] 25)) = .ok (.slice (some ⟨g3, 0, none⟩) M c3) w3 ∧ L.length ≤ c3 ∧ ¬ c3 = 0 ∧ (L.length : Int) < (M : Int) ∧ Hid (M = L.length + 1) ∧ Hid (On w3 wo.heap.size (.slice (some ⟨g3, 0, none⟩) M c3) (L ++ [(1, mainS, 3)]) ∧ Below wo.heap.size wo w3) := fun W2 h2 => by
          have hs1 := b1.size
          have hs2 := h2.size
          obtain ⟨a', c', w', r1, o1, bb⟩ := app_names (c := 1) ((hO1.below h2).below (below_new W2 (.cells #[.int .i64 1, .string mainS, .int .i64 3] 25))) (by simp) (one_rno W2 (1, mainS, 3)) (by simp; omega) (by simp; omega)
          have hl : (L ++ [((1 : Int), mainS, (3 : Int))]).length = L.length + 1 := by simp
          rw [hl] at r1 o1
          rcases o1.shape with ⟨_, e⟩ | ⟨g3, cap, e, _, _, hcap⟩
          · simp at e
          · injection e with e1 e2 e3
            subst e1 e3
            rw [hl] at hcap
            exact ⟨g3, c', w', L.length + 1, r1, by omega, by omega, by omega, hide rfl, hide ⟨o1, ((b1.trans (h2.mono hs1)).trans ((below_new W2 _).mono (by omega))).trans bb⟩⟩
        have h56 : ∀ W, Calls Tryz.prog 56 #[] W fun e w' => e = .returned (.agg #[.int .i64 5, .int .i64 1, .string mainS, .int .i64 3, .int .i64 0]) ∧ Below W.heap.size W w' := fun W => one_call W
        have hfld : ∀ W, (Instr.field 27 (.agg #[.int .i64 5, .int .i64 1, .string mainS, .int .i64 3, .int .i64 0]) 1).run Tryz.prog W = .ok (.agg #[.int .i64 1, .string mainS, .int .i64 3]) W := fun W => by kernel_rfl
        have H1 := hide hO1
        have HB1 := hide hB1
        have HR1 := hide hR1
        clear hO1 hB1 hR1 b1
        go_wp2_with (first | (at_builtin; refine wpList_app rfl _ _ 81 81 rfl rfl rfl rfl run1 ?_) | (go_at_call 56; refine (h56 _).mono ?_; rintro e w2 ⟨rfl, hb2⟩; obtain ⟨g3, c3, w3, M, run3, hc31, hc30, hM1, HM1, H3⟩ := hap2 w2 hb2) | (at_builtin; refine wpList_app rfl _ _ 81 81 rfl rfl rfl rfl run3 ?_))
        have hO3 := H3.out.1
        have hB3 := H3.out.2
        have hg3 := (World.ownsRow.lt hO3 g3 rfl)
        have hrn3 : Rn w3 g3 0 (L ++ [(1, mainS, 3)]) := hO3.rn
        have hrl3 : Rn w3 g3 0 L := by have := hrn3.take L.length; rw [List.take_left] at this; exact this
        have hBw3 : Below w.heap.size w w3 := HB1.out.trans (hB3.mono HB1.out.size)
        obtain ⟨T, hT⟩ : ∃ T, T = insAll [] L := ⟨_, rfl⟩
        have hTl : T.length ≤ 300 := by
          rw [hT]
          have := insAll_len L []
          simp only [List.length_nil, Nat.zero_add] at this
          omega
        have h57 : Calls Tryz.prog 57 #[.slice (some ⟨g3, 0, none⟩) L.length c3] w3 fun e w' => ∃ a4 c4, e = .returned (.slice a4 T.length c4) ∧ Hid (On w' w3.heap.size (.slice a4 T.length c4) T ∧ Below w3.heap.size w3 w') := (sorted_any g3 0 c3 L w3 hrl3 (by omega)).mono fun e w' ⟨v, he, ho, hb⟩ => by
          rw [← sorted_is, ← hT] at ho
          obtain ⟨a4, c4, hv, _⟩ := ho.slice
          subst hv
          exact ⟨a4, c4, he, hide ⟨ho, hb⟩⟩
        have h58 : ∀ W, Below w.heap.size w W → Calls Tryz.prog 58 #[.slice ao L.length c] W fun e w' => ∃ a5 c5, e = .returned (.slice a5 T.length c5) ∧ Hid (On w' W.heap.size (.slice a5 T.length c5) T ∧ Below W.heap.size W w') := fun W hW => (refSorted_any ao c L W (fun k x hx => by
          obtain ⟨b, off, e, hb, hr⟩ := HA.out.2.1 k x hx
          exact ⟨b, off, e, Nat.lt_of_lt_of_le hb hW.size, hr.below hW hb⟩) (by omega) HA.out.2.2.2.1).mono fun e w' ⟨v, he, ho, hb⟩ => by
          rw [← hT] at ho
          obtain ⟨a5, c5, hv, _⟩ := ho.slice
          subst hv
          exact ⟨a5, c5, he, hide ⟨ho, hb⟩⟩
        have HT := hide hT
        have HN3 := hide (And.intro hrn3 (And.intro hg3 hBw3))
        clear hT hrn3 hrl3 hg3 hBw3 hO3 hB3 hap2
        go_wp2_with (first | (go_at_call 57; refine h57.mono ?_; rintro e w4 ⟨a4, c4, rfl, H4⟩; have HB4 := hide (HN3.out.2.2.trans (H4.out.2.mono HN3.out.2.2.size))) | (go_at_call 58; refine (h58 _ HB4.out).mono ?_; rintro e w5 ⟨a5, c5, rfl, H5⟩))
        have hB45 : Below w3.heap.size w3 w5 := H4.out.2.trans (H5.out.2.mono H4.out.2.size)
        have hrn5 : Rn w5 g3 0 (L ++ [(1, mainS, 3)]) := HN3.out.1.below hB45 HN3.out.2.1.2
        have hB5 : Below w.heap.size w w5 := HN3.out.2.2.trans (hB45.mono HN3.out.2.2.size)
        have hg5 : g3 < w5.heap.size := Nat.lt_of_lt_of_le HN3.out.2.1.2 hB45.size
        obtain ⟨e0, e1, e2⟩ := hrn5.at (k := L.length) (x := (1, mainS, 3)) (by simp)
        simp only [Nat.zero_add] at e0 e1 e2
        have E0 := fun nn os => cell_grown hg5 e0 nn os
        have E1 := fun nn os => cell_grown hg5 e1 nn os
        have E2 := fun nn os => cell_grown hg5 e2 nn os
        have h56g := one_grow
        have hq := neq_same (1, mainS, 3)
        simp only at hq
        have HR5 := hide (And.intro hrn5 (And.intro hB5 (And.intro hg5 hB45)))
        clear e0 e1 e2 hrn5 hB5 hg5 hB45 h57 h58 run1 run3
        go_quiet_grown (first | (go_at_call 56; refine Calls.grown_of (h56g _)))
        clear E0 E1 E2 h56g hq
        have hb6 := belG w5.heap.size w5 nq osq (Nat.le_refl _)
        generalize Go.Sort.grow (w5.drewN nq) osq = w6 at hb6 ⊢
        have H6 := hide hb6
        clear hb6
        go_wp2_with (fail)
        go_loopw [12] (fun v12 wr => ∃ j : Nat, v12 = .int .i64 j ∧ j ≤ L.length ∧ Hid (Below w5.heap.size w5 wr)) (fun v12 _ => L.length - (intOf v12).toNat)
        case atStart => exact ⟨0, rfl, by omega, H6⟩
        case round =>
          obtain ⟨j, rfl, hj, HJ⟩ := hrel
          by_cases hgj : j < L.length
          · have y3 : (j : Int) < (L.length : Int) := by omega
            have y4 : (j : Int) < (M : Int) := by omega
            obtain ⟨x, hx⟩ : ∃ x, L[j]? = some x := ⟨_, List.getElem?_eq_getElem hgj⟩
            obtain ⟨b, off, hao, hbw, hR⟩ := HA.out.2.1 j x hx
            subst hao
            obtain ⟨e0, e1, e2⟩ := (HR5.out.1.below HJ.out HR5.out.2.2.1).at (k := j) (x := x) (by rw [List.getElem?_append_left hgj]; exact hx)
            obtain ⟨f0, f1, f2⟩ := ((hR.below HR5.out.2.1 hbw).below HJ.out (Nat.lt_of_lt_of_le hbw HR5.out.2.1.size)).at hx
            have hq := neq_same x
            obtain ⟨x1, x2, x3⟩ := x
            simp only [Nat.zero_add] at e0 e1 e2 f0 f1 f2 hq
            clear hR hbw hx
            go_upto_region 20 with fail
            go_quiet (fail)
            have H7 := hide (HJ.out.trans ((below_drew wr nq).mono HJ.out.size))
            clear e0 e1 e2 f0 f1 f2 hq
            go_wp2
            go_roundw
            case rel => exact ⟨j + 1, by go_num, by omega, hide H7.out⟩
            case measure => simp [intOf]; omega
          · have y3 : ¬ (j : Int) < (L.length : Int) := by omega
            obtain ⟨w8, hw8⟩ : ∃ w8, w8 = wr := ⟨_, rfl⟩
            subst hw8
            go_wp2_with (fail)
            go_loopw [13] (fun v13 wr => ∃ m : Nat, v13 = .int .i64 m ∧ m ≤ T.length ∧ Hid (Below w5.heap.size w5 wr)) (fun v13 _ => T.length - (intOf v13).toNat)
            case atStart => exact ⟨0, rfl, by omega, HJ⟩
            case round =>
              obtain ⟨m, rfl, hm, HM⟩ := hrel
              by_cases hgm : m < T.length
              · have y5 : (m : Int) < (T.length : Int) := by omega
                obtain ⟨x, hx⟩ : ∃ x, T[m]? = some x := ⟨_, List.getElem?_eq_getElem hgm⟩
                obtain ⟨_, _, hv4, _, _, s4⟩ := H4.out.1.slice
                obtain ⟨_, _, hv5, _, _, s5⟩ := H5.out.1.slice
                injection hv4 with e4 _ _
                injection hv5 with e5 _ _
                subst e4 e5
                obtain ⟨g4, hg4, _, l4, r4⟩ := s4 m x hx
                obtain ⟨g5, hg5, _, l5, r5⟩ := s5 m x hx
                subst hg4 hg5
                obtain ⟨e0, e1, e2⟩ := ((r4.below H5.out.2 l4).below HM.out (Nat.lt_of_lt_of_le l4 H5.out.2.size)).at hx
                obtain ⟨f0, f1, f2⟩ := (r5.below HM.out l5).at hx
                have hq := neq_same x
                obtain ⟨x1, x2, x3⟩ := x
                simp only [Nat.zero_add] at e0 e1 e2 f0 f1 f2 hq
                clear r4 r5 s4 s5 hx l4 l5
                go_upto_region 25 with fail
                go_quiet (fail)
                have H7 := hide (HM.out.trans ((below_drew wr nq).mono HM.out.size))
                clear e0 e1 e2 f0 f1 f2 hq
                go_wp2
                go_roundw
                case rel => exact ⟨m + 1, by go_num, by omega, hide H7.out⟩
                case measure => simp [intOf]; omega
              · have y5 : ¬ (m : Int) < (T.length : Int) := by omega
                have HE := hide (HR5.out.2.1.trans (HM.out.mono HR5.out.2.1.size))
                go_wp2_with (go_at_call 9; refine (hk _ HE.out).mono ?_; rintro e w9 ⟨rfl, hb9⟩)
                go_ret
                exact ⟨rfl, HE.out.trans (hb9.mono HE.out.size)⟩
end Go.Proofs.YtkjabnpniingnaaGreatDoor
