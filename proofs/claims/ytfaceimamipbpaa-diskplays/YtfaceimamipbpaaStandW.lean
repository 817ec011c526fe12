/-
  THE WALK over 'stands', where both disks are there.
-/
import Derived.Test.YtfaceimamipbpaaStand
namespace Go.Proofs.Ytfaceimamipbpaa
open Go.RowKit Go.Shelf
set_option linter.unusedSimpArgs false
attribute [local go_sem] Oper.semAt_some

theorem own_new {w : World} {B : Nat} {ao : Option Addr} {n c : Nat} {l : List Int} (h : Own 5 w B (.slice ao n c) l) : ∀ j, Value.ownBlock (.slice ao n c) = some j → B ≤ j ∧ j < w.heap.size := fun j hj => World.ownsRow.lt h j hj

set_option maxHeartbeats 4000000 in
set_option maxRecDepth 100000 in
theorem stands_yes : Stands := by
  intro B X w D R cap beg log leave hT hll
  obtain ⟨Fd, Gd, Fr, Gr, hP, hRD, _, _, _, _, _⟩ := hT
  have hb4 := stW_below w (.pointer (some ⟨D, 0, none⟩)) (.pointer (some ⟨R, 0, none⟩)) leave
  have hb4 := hide hb4
  have hs4 := stW_size w (.pointer (some ⟨D, 0, none⟩)) (.pointer (some ⟨R, 0, none⟩)) leave
  obtain ⟨lo, lc, hSe⟩ := hRD.seen
  obtain ⟨x0, c0, x1, c1, va, vb, vl, xs, r0, r1, _, r3, r4, _, _, _, _, _, o0, o1, _, _⟩ := hRD.look
  obtain ⟨a0, d0, rfl, _⟩ := o0.form
  obtain ⟨a1, d1, rfl, _⟩ := o1.form
  have hp := hP.pos
  have hm := hP.most
  have hfn := hP.fits.now
  have hk0 := hfn.l0
  have hk1 := hfn.l1
  have s0 := o0.rd
  have s1 := o1.rd
  have HP := hide hP
  have HS := hide hSe
  have HO := hide (And.intro s0 s1)
  clear o0 o1 hSe hP hRD hfn s0 s1
  refine calls_marks Try.func11 rfl ?_
  simp only [Try.ntmps11, List.size_toArray, List.length_cons, List.length_nil, Nat.reduceAdd, Nat.reduceSub, Array.replicate_succ, Array.replicate_zero, List.push_toArray, List.append_toArray, List.nil_append, List.cons_append]
  go_wp2
  go_loopw [7] (fun i wr => ∃ k : Nat, k ≤ 4 ∧ i = .int .i64 ((k : Int) - 1) ∧ Below (w.heap.size + 4) (stW w (.pointer (some ⟨D, 0, none⟩)) (.pointer (some ⟨R, 0, none⟩)) leave) wr) (fun i _ => 4 - (intOf i + 1).toNat)
  case atStart => exact ⟨0, by omega, rfl, Below.refl _ _⟩
  case round =>
    obtain ⟨k, hk, rfl, hb⟩ := hrel
    have hbw : Below w.heap.size w wr := hb4.out.trans (hb.mono (by omega))
    have hsr : w.heap.size + 4 ≤ wr.heap.size := by have := hb.size; omega
    have hN := HP.out.below hbw
    obtain ⟨b1, b2, b3, b4⟩ := stW_boxes w (.pointer (some ⟨D, 0, none⟩)) (.pointer (some ⟨R, 0, none⟩)) leave wr hb
    have q0 := (hbw.cell (World.block_lt_of_cell? _ _ r0)).trans r0
    have q1 := (hbw.cell (World.block_lt_of_cell? _ _ r1)).trans r1
    have q3 := (hbw.cell (World.block_lt_of_cell? _ _ r3)).trans r3
    have q4 := (hbw.cell (World.block_lt_of_cell? _ _ r4)).trans r4
    have t0 := HO.out.1.below hbw
    have t1 := HO.out.2.below hbw
    have HB := hide hb
    have HW := hide hbw
    clear hb hbw r0 r1 r3 r4
    rcases (show k = 0 ∨ k = 1 ∨ k = 2 ∨ k = 3 ∨ k = 4 by omega) with rfl | rfl | rfl | rfl | rfl
    · rw [show ((0 : Nat) : Int) - 1 = -1 from rfl]
      have ha := area_no hN (-1) (by decide)
      have hr := room_no hN (-1) (by decide)
      clear hN
      go_wp2_with (first | (go_at_call 24; refine ha.mono ?_; rintro e w1 ⟨rfl, rfl⟩) | (go_at_call 22; refine hr.mono ?_; rintro e w1 ⟨rfl, rfl⟩))
      go_roundw
      case rel => exact ⟨1, by omega, by go_num, HB.out⟩
      case measure => simp [intOf]
    · rw [show ((1 : Nat) : Int) - 1 = 0 from rfl]
      have ha := area_yes hN 0 (.inl rfl)
      rw [show (plays beg log).at 0 = (plays beg log).a0 from rfl] at ha
      go_wp2_with (go_at_call 24; refine ha.mono ?_; rintro e w1 ⟨ao, c, rfl, ho, _, bw1⟩; have c1' : w1.cell? ⟨w.heap.size, 0, none⟩ = some (.pointer (some ⟨D, 0, none⟩)) := (bw1.cell (World.block_lt_of_cell? _ _ b1)).trans b1; have c2' : w1.cell? ⟨w.heap.size + 1, 0, none⟩ = some (.pointer (some ⟨R, 0, none⟩)) := (bw1.cell (World.block_lt_of_cell? _ _ b2)).trans b2)
      have hsw1 := bw1.size
      have c3' := (bw1.cell (World.block_lt_of_cell? _ _ q0)).trans q0
      have c4' := (bw1.cell (World.block_lt_of_cell? _ _ q3)).trans q3
      have hv1 : ∀ n, (convert 22 9 (.slice ao (plays beg log).a0.length c)).run Try.prog (w1.drewN n) = .ok (.string (strOfNums (plays beg log).a0)) (w1.drewN n) := fun n => conv_rd (ho.rd.drewN n) rfl
      have hv2 : ∀ n, (convert 22 9 (.slice a0 (plays beg log).a0.length d0)).run Try.prog (w1.drewN n) = .ok (.string (strOfNums (plays beg log).a0)) (w1.drewN n) := fun n => conv_rd ((t0.below bw1).drewN n) rfl
      have hN1 := hN.below bw1
      have hr : ∀ n, Calls Try.prog 22 #[.pointer (some ⟨D, 0, none⟩), .int .i64 0] (w1.drewN n) fun e w' => e = .returned (.int .i64 (cap - ((plays beg log).a0.length : Nat))) ∧ ∃ m, w' = w1.drewN m := fun n => by
        refine (room_yes (hN1.drewN n) 0 (.inl rfl)).mono ?_
        rintro e w' ⟨rfl, m, rfl⟩
        exact ⟨rfl, n + m, World.drewN_drewN _ _ _⟩
      have hov : ∀ n, Calls Try.prog 29 #[.slice ao (plays beg log).a0.length c] (w1.drewN n) fun e w' => (∃ v, e = .returned v) ∧ Below (w.heap.size + 4) (stW w (.pointer (some ⟨D, 0, none⟩)) (.pointer (some ⟨R, 0, none⟩)) leave) w' := fun n => by
        refine (over_any ao c wr.heap.size (plays beg log).a0 _ (ho.below ((below_drew _ n).mono (by simp))) (by omega)).mono ?_
        rintro e w' ⟨hv, hon⟩
        refine ⟨hv, Below.only ((HB.out.trans (bw1.mono hsr)).trans ((below_drew _ n).mono (by omega))) hon (by simp; omega) (fun j hj => ?_)⟩
        have := (own_new ho j hj).1
        omega
      clear hN hN1 ha b1 b2 b3 b4 q0 q1 q3 q4 t0 t1 ho bw1
      go_quiet ((go_at_call 22; exact hr _))
      go_wp2_with (go_at_call 29; refine (hov _).mono ?_; rintro e w3 ⟨⟨v, rfl⟩, hB3⟩; have HB3 := hide hB3; clear hB3)
      go_roundw
      case rel => exact ⟨2, by omega, by go_num, HB3.out⟩
      case measure => simp [intOf]
    · rw [show ((2 : Nat) : Int) - 1 = 1 from rfl]
      have ha := area_yes hN 1 (.inr rfl)
      rw [show (plays beg log).at 1 = (plays beg log).a1 from rfl] at ha
      go_wp2_with (go_at_call 24; refine ha.mono ?_; rintro e w1 ⟨ao, c, rfl, ho, _, bw1⟩; have c1' : w1.cell? ⟨w.heap.size, 0, none⟩ = some (.pointer (some ⟨D, 0, none⟩)) := (bw1.cell (World.block_lt_of_cell? _ _ b1)).trans b1; have c2' : w1.cell? ⟨w.heap.size + 1, 0, none⟩ = some (.pointer (some ⟨R, 0, none⟩)) := (bw1.cell (World.block_lt_of_cell? _ _ b2)).trans b2)
      have hsw1 := bw1.size
      have c3' := (bw1.cell (World.block_lt_of_cell? _ _ q0)).trans q0
      have c4' := (bw1.cell (World.block_lt_of_cell? _ _ q4)).trans q4
      have hv1 : ∀ n, (convert 22 9 (.slice ao (plays beg log).a1.length c)).run Try.prog (w1.drewN n) = .ok (.string (strOfNums (plays beg log).a1)) (w1.drewN n) := fun n => conv_rd (ho.rd.drewN n) rfl
      have hv2 : ∀ n, (convert 22 9 (.slice a1 (plays beg log).a1.length d1)).run Try.prog (w1.drewN n) = .ok (.string (strOfNums (plays beg log).a1)) (w1.drewN n) := fun n => conv_rd ((t1.below bw1).drewN n) rfl
      have hN1 := hN.below bw1
      have hr : ∀ n, Calls Try.prog 22 #[.pointer (some ⟨D, 0, none⟩), .int .i64 1] (w1.drewN n) fun e w' => e = .returned (.int .i64 (cap - ((plays beg log).a1.length : Nat))) ∧ ∃ m, w' = w1.drewN m := fun n => by
        refine (room_yes (hN1.drewN n) 1 (.inr rfl)).mono ?_
        rintro e w' ⟨rfl, m, rfl⟩
        exact ⟨rfl, n + m, World.drewN_drewN _ _ _⟩
      have hov : ∀ n, Calls Try.prog 29 #[.slice ao (plays beg log).a1.length c] (w1.drewN n) fun e w' => (∃ v, e = .returned v) ∧ Below (w.heap.size + 4) (stW w (.pointer (some ⟨D, 0, none⟩)) (.pointer (some ⟨R, 0, none⟩)) leave) w' := fun n => by
        refine (over_any ao c wr.heap.size (plays beg log).a1 _ (ho.below ((below_drew _ n).mono (by simp))) (by omega)).mono ?_
        rintro e w' ⟨hv, hon⟩
        refine ⟨hv, Below.only ((HB.out.trans (bw1.mono hsr)).trans ((below_drew _ n).mono (by omega))) hon (by simp; omega) (fun j hj => ?_)⟩
        have := (own_new ho j hj).1
        omega
      clear hN hN1 ha b1 b2 b3 b4 q0 q1 q3 q4 t0 t1 ho bw1
      go_quiet ((go_at_call 22; exact hr _))
      go_wp2_with (go_at_call 29; refine (hov _).mono ?_; rintro e w3 ⟨⟨v, rfl⟩, hB3⟩; have HB3 := hide hB3; clear hB3)
      go_roundw
      case rel => exact ⟨3, by omega, by go_num, HB3.out⟩
      case measure => simp [intOf]
    · rw [show ((3 : Nat) : Int) - 1 = 2 from rfl]
      have ha := area_no hN 2 (by decide)
      have hr := room_no hN 2 (by decide)
      clear hN
      go_wp2_with (first | (go_at_call 24; refine ha.mono ?_; rintro e w1 ⟨rfl, rfl⟩) | (go_at_call 22; refine hr.mono ?_; rintro e w1 ⟨rfl, rfl⟩))
      go_roundw
      case rel => exact ⟨4, by omega, by go_num, HB.out⟩
      case measure => simp [intOf]
    · rw [show ((4 : Nat) : Int) - 1 = 3 from rfl]
      have hal := all_any hN
      have hS0 := HS.out.below HW.out
      have h7 := hS0.box
      have hfits := HP.out.fits
      go_wp2_with (go_at_call 16; refine hal.mono ?_; rintro e w1 ⟨L, lv, ys, rfl, hLb, hrow, hit, hLw, hLs, bw1, hFl⟩; have hfe := fn_eq w1 L; have c1' : w1.cell? ⟨w.heap.size, 0, none⟩ = some (.pointer (some ⟨D, 0, none⟩)) := (bw1.cell (World.block_lt_of_cell? _ _ b1)).trans b1; have c2' : w1.cell? ⟨w.heap.size + 1, 0, none⟩ = some (.pointer (some ⟨R, 0, none⟩)) := (bw1.cell (World.block_lt_of_cell? _ _ b2)).trans b2)
      have hsw1 := bw1.size
      have hN1 := hN.below bw1
      have c3' := (bw1.cell (World.block_lt_of_cell? _ _ q1)).trans q1
      have c4' := (bw1.cell (World.block_lt_of_cell? _ _ h7)).trans h7
      have hus : ∀ n, Calls Try.prog 23 #[.pointer (some ⟨D, 0, none⟩)] (w1.drewN n) fun e w' => e = .returned (.int .i64 (plays beg log).u) ∧ ∃ m, w' = w1.drewN m := fun n => by
        refine (used_any (hN1.drewN n)).mono ?_
        rintro e w' ⟨rfl, rfl⟩
        exact ⟨rfl, n, rfl⟩
      have hwr : ∀ n, Calls Try.prog 19 #[.pointer (some ⟨D, 0, none⟩)] (w1.drewN n) fun e w' => e = .returned (.int .i64 log.length) ∧ ∃ m, w' = w1.drewN m := fun n => by
        refine (writes_any (hN1.drewN n)).mono ?_
        rintro e w' ⟨rfl, rfl⟩
        exact ⟨rfl, n, rfl⟩
      have HB1 := hide (HB.out.trans (bw1.mono hsr))
      have HL := hide (And.intro hLb (And.intro ((Only.ofBelow bw1).row hrow (fun _ _ d => d.elim)) (And.intro (hit.only (Only.ofBelow bw1) (fun _ d => d.elim)) hFl)))
      have HN := hide (And.intro hN1 (And.intro (hS0.below bw1) hN.uF))
      have HG := hide hN.uG
      clear hN1 hN hal hfe hLb hrow hit hFl q0 q1 q3 q4 t0 t1 b1 b2 b3 b4 hS0 h7 bw1
      go_quiet ((first | (go_at_call 23; exact hus _) | (go_at_call 19; exact hwr _)))
      have hw2 : Below w1.heap.size w1 (w1.drewN nq) := below_drew w1 nq
      generalize w1.drewN nq = w2 at hw2 ⊢
      clear c1' c2' c3' c4' hus hwr
      have hsw2 := hw2.size
      go_wp2
      refine wp_loop_rounds 3 ?_
      rw [rounds_succ]
      go_wp2
      have hwww2 := hide hw2
      clear hw2
      obtain ⟨wN0, hwN⟩ : ∃ wN, w2.alloc (.cells #[.int .i64 0] 3) = wN := ⟨_, rfl⟩
      have hsN0 : wN0.heap.size = w2.heap.size + 1 := by rw [← hwN]; simp
      have hTc : wN0.cell? ⟨w2.heap.size, 0, none⟩ = some (.int .i64 0) := by rw [← hwN, cell_of_row _ _ 0 _ 3 (0, 0) (heap_alloc_new w2 _)]; rfl
      have bN : Below w2.heap.size w2 wN0 := by rw [← hwN]; exact (Below.refl _ w2).alloc (Nat.le_refl _) _
      rw [hwN]
      clear hwN
      obtain ⟨wA0, hwA⟩ : ∃ wA0, wN0.alloc (.cells #[.int .i64 0] 3) = wA0 := ⟨_, rfl⟩
      have hsA0 : wA0.heap.size = w2.heap.size + 1 + 1 := by rw [← hwA]; simp [hsN0]
      have bA0 : Below wN0.heap.size wN0 wA0 := by rw [← hwA]; exact (Below.refl _ wN0).alloc (Nat.le_refl _) _
      have hI0 : TurnI wN0 (w2.heap.size + 1) 0 wA0 := ⟨by rw [← hsN0]; exact bA0, by rw [← hsN0, ← hwA]; exact heap_alloc_new wN0 _⟩
      rw [hwA]
      clear hwA
      have bw1N0 : Below w1.heap.size w1 wN0 := hwww2.out.trans (bN.mono (by omega))
      have HF0 : Hid (∀ W, Below (w2.heap.size + 1) wN0 W → W.cell? ⟨w.heap.size, 0, none⟩ = some (.pointer (some ⟨D, 0, none⟩)) ∧ W.cell? ⟨w.heap.size + 1, 0, none⟩ = some (.pointer (some ⟨R, 0, none⟩)) ∧ W.cell? ⟨w.heap.size + 1 + 1, 0, none⟩ = some (.int .i64 leave) ∧ W.cell? ⟨w2.heap.size, 0, none⟩ = some (.int .i64 0) ∧ Seen W R log lo lc ∧ PD Fd Gd W D cap beg log ∧ Below (w.heap.size + 4) (stW w (.pointer (some ⟨D, 0, none⟩)) (.pointer (some ⟨R, 0, none⟩)) leave) W) := hide (fun W hW => by
        have q1 : Below w1.heap.size w1 W := bw1N0.trans (hW.mono (by omega))
        have q2 := HB1.out.trans (q1.mono (by omega))
        obtain ⟨p1, p2, p3, _⟩ := stW_boxes w (.pointer (some ⟨D, 0, none⟩)) (.pointer (some ⟨R, 0, none⟩)) leave W q2
        exact ⟨p1, p2, p3, (hW.cell (by simp)).trans hTc, HN.out.2.1.below q1, HN.out.1.below q1, q2⟩)
      have hlogA : LogAt wA0 L lv Gd log ys := LogAt.below (W := w1) ⟨HL.out.1, HL.out.2.1, HL.out.2.2.1⟩ (bw1N0.trans (bA0.mono (by omega)))
      have hDb : ∀ j, j < w2.heap.size + 1 → ¬ TurnD (w2.heap.size + 1) j := fun j hj e => by unfold TurnD at e; omega
      refine range_break (Q := _) 5 L lv Gd log ys rfl rfl hlogA ?hlen (by omega) (TurnD (w2.heap.size + 1)) (hDb _ (by omega)) (by unfold TurnD; omega) (by unfold TurnD; omega) (fun j hj => hDb _ (by have := HN.out.2.2 j (HL.out.2.2.2 j hj); omega)) (fun j hj hg => hDb _ (by have := HG.out j hg; omega) hj) (fun j hg => by have := HG.out j hg; omega)
        (TurnI wN0 (w2.heap.size + 1)) (fun W => (0 : Nat) = 0 ∧ ∃ k : Nat, (k : Int) = leave ∧ TurnI wN0 (w2.heap.size + 1) k W) (fun W => ∃ k : Nat, (k = log.length ∨ ((0 : Nat) = 0 ∧ (k : Int) = leave)) ∧ TurnI wN0 (w2.heap.size + 1) k W)
        (fun k W W' hi ho => hi.only (by intro j e; omega) ho) (fun W W' hi ho => ⟨hi.1, hi.2.choose, hi.2.choose_spec.1, hi.2.choose_spec.2.only (by intro j e; omega) ho⟩) hI0 ?hround (fun _ _ h => h) (fun W h => ⟨_, .inl rfl, h⟩) (fun W h => ⟨_, .inr ⟨h.1, h.2.choose_spec.1⟩, h.2.choose_spec.2⟩) ?hdone
      case hlen => exact fun x hx => by have := (hfits.2 x hx).len; omega
      case hround =>
        intro k x ao c W0 W hx hi hbW0 hH hls
        have hkl : k < log.length := (List.getElem?_eq_some_iff.1 hx).1
        have hki : (k : Int) < (log.length : Int) := by omega
        have hdk : decide ((log.length : Int) ≤ (k : Int)) = false := by simp; omega
        have hdk2 : decide (log.length ≤ k) = false := by simp; omega
        have hsW := hbW0.size
        have hxl : x.data.length ≤ 140737488355328 := by have := (hfits.2 x (List.mem_of_getElem? hx)).len; omega
        have hbX : Below W.heap.size W (W.alloc (.cells #[.int .i64 x.kind, .int .i64 x.area, .slice ao x.data.length c] 50)) := (Below.refl _ W).alloc (Nat.le_refl _) _
        have hsX : (W.alloc (.cells #[.int .i64 x.kind, .int .i64 x.area, .slice ao x.data.length c] 50)).heap.size = W.heap.size + 1 := by simp
        have hiX := (hi.below hbW0).below hbX
        have hoX := hH.own.below hbX
        have hWc := heap_alloc_new W (.cells #[.int .i64 x.kind, .int .i64 x.area, .slice ao x.data.length c] 50)
        clear hI0 hlogA bA0 bN hTc
        gi_wp2
        refine ⟨(Only.refl _ W).alloc _, fun W2 ho2 => ?_⟩
        have hs2 := ho2.size
        have hi2 : TurnI wN0 (w2.heap.size + 1) k W2 := hiX.only (by intro j e; omega) ho2
        have own2 : Own 5 W2 W0.heap.size (.slice ao x.data.length c) x.data := ho2.own hoX (fun j hj e => by have := (own_new hoX j hj).1; omega)
        obtain ⟨g0, g1, g2, _⟩ := blk3 ((ho2.block W.heap.size (by omega) (by omega)).trans hWc)
        obtain ⟨e1, e2, e3, e4, eS, eP, _⟩ := HF0.out W2 hi2.1
        obtain ⟨g, ar, cr, hlo, i1, i2, i3, rdR⟩ := eS.item k x hx
        have e7 := eS.box
        rw [hlo] at e7
        have n0 := hi2.cell.1
        have hS26 : W2.drew.cell? ⟨w2.heap.size + 1, 0, none⟩ = some (.int .i64 (k : Int)) ∧ W2.drew.cell? ⟨w.heap.size + 1, 0, none⟩ = some (.pointer (some ⟨R, 0, none⟩)) ∧ W2.drew.cell? ⟨R, 7, none⟩ = some (.slice (some ⟨g, 0, none⟩) log.length lc) ∧ W2.drew.cell? ⟨W.heap.size, 0, none⟩ = some (.int .i64 x.kind) ∧ W2.drew.cell? ⟨W.heap.size, 1, none⟩ = some (.int .i64 x.area) ∧ W2.drew.cell? ⟨W.heap.size, 2, none⟩ = some (.slice ao x.data.length c) ∧ W2.drew.cell? ⟨g, k * 3, none⟩ = some (.int .i64 x.kind) ∧ W2.drew.cell? ⟨g, k * 3 + 1, none⟩ = some (.int .i64 x.area) ∧ W2.drew.cell? ⟨g, k * 3 + 2, none⟩ = some (.slice ar x.data.length cr) := ⟨n0, e2, e7, g0, g1, g2, i1, i2, i3⟩
        have hsw26 := sameWrite_yes x.kind x.area ao ar c cr x.data W2.drew own2.rd rdR
        unfold wrv at hsw26
        have HI2 := hide (And.intro hi2 own2)
        clear n0 e1 e2 e3 e4 eS eP e7 g0 g1 g2 i1 i2 i3 rdR hi hiX hoX hWc hH hbW0 hbX ho2 own2 hi2
        gi_wp2
        refine region_in (S := (fun w' => w'.cell? ⟨w2.heap.size + 1, 0, none⟩ = some (.int .i64 (k : Int)) ∧ w'.cell? ⟨w.heap.size + 1, 0, none⟩ = some (.pointer (some ⟨R, 0, none⟩)) ∧ w'.cell? ⟨R, 7, none⟩ = some (.slice (some ⟨g, 0, none⟩) log.length lc) ∧ w'.cell? ⟨W.heap.size, 0, none⟩ = some (.int .i64 x.kind) ∧ w'.cell? ⟨W.heap.size, 1, none⟩ = some (.int .i64 x.area) ∧ w'.cell? ⟨W.heap.size, 2, none⟩ = some (.slice ao x.data.length c) ∧ w'.cell? ⟨g, k * 3, none⟩ = some (.int .i64 x.kind) ∧ w'.cell? ⟨g, k * 3 + 1, none⟩ = some (.int .i64 x.area) ∧ w'.cell? ⟨g, k * 3 + 2, none⟩ = some (.slice ar x.data.length cr))) (by kernel_rfl) (by kernel_rfl) (fun _ _ h => h) (by exact hS26) (fun hHeld => ?_)
        try dsimp only at hHeld
        refine take_op (i := 0) (d := 141) (OP := Op.load 3 (Operand.tmp 12)) (T := 3) (v := ?vq1x) rfl rfl rfl rfl (by kernel_rfl) (by kernel_rfl) (by kernel_rfl) (fun _ _ _ h => h) (by rfl) ?hq1x hHeld ?rq1x
        case hq1x => (intro w' hSw; (try dsimp only at hSw); go_simp <;> with_reducible rfl)
        try simp only [Act.put, List.setIfInBounds_toArray, List.set_cons_zero, List.set_cons_succ]
        refine take_op (i := 1) (d := 142) (OP := Op.load 32 (Operand.tmp 4)) (T := 32) (v := ?vq2x) rfl rfl rfl rfl (by kernel_rfl) (by kernel_rfl) (by kernel_rfl) (fun _ _ _ h => h) (by rfl) ?hq2x hHeld ?rq2x
        case hq2x => (intro w' hSw; (try dsimp only at hSw); go_simp <;> with_reducible rfl)
        try simp only [Act.put, List.setIfInBounds_toArray, List.set_cons_zero, List.set_cons_succ]
        refine take_op (i := 2) (d := 143) (OP := Op.nilCheck (Operand.tmp 142)) (T := 0) (v := ?vq3x) rfl rfl rfl rfl (by kernel_rfl) (by kernel_rfl) (by kernel_rfl) (fun _ _ _ h => h) (by rfl) ?hq3x hHeld ?rq3x
        case hq3x => (intro w' hSw; (try dsimp only at hSw); go_simp <;> with_reducible rfl)
        try simp only [Act.put, List.setIfInBounds_toArray, List.set_cons_zero, List.set_cons_succ]
        refine take_op (i := 3) (d := 144) (OP := Op.fieldAddr 70 (Operand.tmp 143) 5) (T := 0) (v := ?vq4x) rfl rfl rfl rfl (by kernel_rfl) (by kernel_rfl) (by kernel_rfl) (fun _ _ _ h => h) (by rfl) ?hq4x hHeld ?rq4x
        case hq4x => (intro w' hSw; (try dsimp only at hSw); go_simp <;> with_reducible rfl)
        try simp only [Act.put, List.setIfInBounds_toArray, List.set_cons_zero, List.set_cons_succ]
        refine take_op (i := 4) (d := 145) (OP := Op.load 58 (Operand.tmp 144)) (T := 58) (v := ?vq5x) rfl rfl rfl rfl (by kernel_rfl) (by kernel_rfl) (by kernel_rfl) (fun _ _ _ h => h) (by rfl) ?hq5x hHeld ?rq5x
        case hq5x => (intro w' hSw; (try dsimp only at hSw); go_simp <;> with_reducible rfl)
        try simp only [Act.put, List.setIfInBounds_toArray, List.set_cons_zero, List.set_cons_succ]
        refine take_op (i := 5) (d := 146) (OP := Op.call { callee := Callee.builtin Builtin.len, args := #[Operand.tmp 145], argTypes := #[58] }) (T := 3) (v := ?vq6x) rfl rfl rfl rfl (by kernel_rfl) (by kernel_rfl) (by kernel_rfl) (fun _ _ _ h => h) (by rfl) ?hq6x hHeld ?rq6x
        case hq6x => (intro w' hSw; (try dsimp only at hSw); go_simp <;> with_reducible rfl)
        try simp only [Act.put, List.setIfInBounds_toArray, List.set_cons_zero, List.set_cons_succ]
        refine take_op (i := 6) (d := 147) (OP := Op.binOp BinOp.geq 3 (Operand.tmp 141) (Operand.tmp 146) 3) (T := 4) (v := ?vq7x) rfl rfl rfl rfl (by kernel_rfl) (by kernel_rfl) (by kernel_rfl) (fun _ _ _ h => h) (by rfl) ?hq7x hHeld ?rq7x
        case hq7x => (intro w' hSw; (try dsimp only at hSw); go_simp <;> with_reducible rfl)
        try simp only [Act.put, List.setIfInBounds_toArray, List.set_cons_zero, List.set_cons_succ]
        refine take_op (i := 7) (d := 148) (OP := Op.move (Operand.tmp 147)) (T := 4) (v := ?vq8x) rfl rfl rfl rfl (by kernel_rfl) (by kernel_rfl) (by kernel_rfl) (fun _ _ _ h => h) (by rfl) ?hq8x hHeld ?rq8x
        case hq8x => (intro w' hSw; (try dsimp only at hSw); go_simp <;> with_reducible rfl)
        try simp only [Act.put, List.setIfInBounds_toArray, List.set_cons_zero, List.set_cons_succ]
        refine take_op (i := 8) (d := 149) (OP := Op.move (Operand.tmp 13)) (T := 3) (v := ?vq9x) rfl rfl rfl rfl (by kernel_rfl) (by kernel_rfl) (by kernel_rfl) (fun _ _ _ h => h) (by rfl) ?hq9x hHeld ?rq9x
        case hq9x => (intro w' hSw; (try dsimp only at hSw); go_simp <;> with_reducible rfl)
        try simp only [Act.put, List.setIfInBounds_toArray, List.set_cons_zero, List.set_cons_succ]
        refine take_op (i := 9) (d := 150) (OP := Op.load 3 (Operand.tmp 12)) (T := 3) (v := ?vq10x) rfl rfl rfl rfl (by kernel_rfl) (by kernel_rfl) (by kernel_rfl) (fun _ _ _ h => h) (by rfl) ?hq10x hHeld ?rq10x
        case hq10x => (intro w' hSw; (try dsimp only at hSw); go_simp <;> with_reducible rfl)
        try simp only [Act.put, List.setIfInBounds_toArray, List.set_cons_zero, List.set_cons_succ]
        refine take_op (i := 10) (d := 151) (OP := Op.binOp BinOp.neq 3 (Operand.tmp 149) (Operand.tmp 150) 3) (T := 4) (v := ?vq11x) rfl rfl rfl rfl (by kernel_rfl) (by kernel_rfl) (by kernel_rfl) (fun _ _ _ h => h) (by rfl) ?hq11x hHeld ?rq11x
        case hq11x => (intro w' hSw; (try dsimp only at hSw); go_simp <;> with_reducible rfl)
        try simp only [Act.put, List.setIfInBounds_toArray, List.set_cons_zero, List.set_cons_succ]
        refine take_op (i := 11) (d := 152) (OP := Op.pick (Operand.tmp 148) (Operand.const (Value.bool true)) (Operand.tmp 151)) (T := 4) (v := ?vq12x) rfl rfl rfl rfl (by kernel_rfl) (by kernel_rfl) (by kernel_rfl) (fun _ _ _ h => h) (by rfl) ?hq12x hHeld ?rq12x
        case hq12x => (intro w' hSw; (try dsimp only at hSw); go_simp <;> with_reducible rfl)
        try simp only [Act.put, List.setIfInBounds_toArray, List.set_cons_zero, List.set_cons_succ]
        refine take_op (i := 12) (d := 153) (OP := Op.move (Operand.tmp 152)) (T := 4) (v := ?vq13x) rfl rfl rfl rfl (by kernel_rfl) (by kernel_rfl) (by kernel_rfl) (fun _ _ _ h => h) (by rfl) ?hq13x hHeld ?rq13x
        case hq13x => (intro w' hSw; (try dsimp only at hSw); go_simp <;> with_reducible rfl)
        try simp only [Act.put, List.setIfInBounds_toArray, List.set_cons_zero, List.set_cons_succ]
        refine take_op (i := 13) (d := 154) (OP := Op.load 50 (Operand.tmp 14)) (T := 50) (v := ?vq14x) rfl rfl rfl rfl (by kernel_rfl) (by kernel_rfl) (by kernel_rfl) (fun _ _ _ h => h) (by rfl) ?hq14x hHeld ?rq14x
        case hq14x => (intro w' hSw; (try dsimp only at hSw); go_simp <;> with_reducible rfl)
        try simp only [Act.put, List.setIfInBounds_toArray, List.set_cons_zero, List.set_cons_succ]
        refine take_op (i := 14) (d := 155) (OP := Op.load 32 (Operand.tmp 4)) (T := 32) (v := ?vq15x) rfl rfl rfl rfl (by kernel_rfl) (by kernel_rfl) (by kernel_rfl) (fun _ _ _ h => h) (by rfl) ?hq15x hHeld ?rq15x
        case hq15x => (intro w' hSw; (try dsimp only at hSw); go_simp <;> with_reducible rfl)
        try simp only [Act.put, List.setIfInBounds_toArray, List.set_cons_zero, List.set_cons_succ]
        refine take_op (i := 15) (d := 156) (OP := Op.nilCheck (Operand.tmp 155)) (T := 0) (v := ?vq16x) rfl rfl rfl rfl (by kernel_rfl) (by kernel_rfl) (by kernel_rfl) (fun _ _ _ h => h) (by rfl) ?hq16x hHeld ?rq16x
        case hq16x => (intro w' hSw; (try dsimp only at hSw); go_simp <;> with_reducible rfl)
        try simp only [Act.put, List.setIfInBounds_toArray, List.set_cons_zero, List.set_cons_succ]
        refine take_op (i := 16) (d := 157) (OP := Op.fieldAddr 70 (Operand.tmp 156) 5) (T := 0) (v := ?vq17x) rfl rfl rfl rfl (by kernel_rfl) (by kernel_rfl) (by kernel_rfl) (fun _ _ _ h => h) (by rfl) ?hq17x hHeld ?rq17x
        case hq17x => (intro w' hSw; (try dsimp only at hSw); go_simp <;> with_reducible rfl)
        try simp only [Act.put, List.setIfInBounds_toArray, List.set_cons_zero, List.set_cons_succ]
        refine take_op (i := 17) (d := 158) (OP := Op.load 58 (Operand.tmp 157)) (T := 58) (v := ?vq18x) rfl rfl rfl rfl (by kernel_rfl) (by kernel_rfl) (by kernel_rfl) (fun _ _ _ h => h) (by rfl) ?hq18x hHeld ?rq18x
        case hq18x => (intro w' hSw; (try dsimp only at hSw); go_simp <;> with_reducible rfl)
        try simp only [Act.put, List.setIfInBounds_toArray, List.set_cons_zero, List.set_cons_succ]
        refine take_op (i := 18) (d := 159) (OP := Op.load 3 (Operand.tmp 12)) (T := 3) (v := ?vq19x) rfl rfl rfl rfl (by kernel_rfl) (by kernel_rfl) (by kernel_rfl) (fun _ _ _ h => h) (by rfl) ?hq19x hHeld ?rq19x
        case hq19x => (intro w' hSw; (try dsimp only at hSw); go_simp <;> with_reducible rfl)
        try simp only [Act.put, List.setIfInBounds_toArray, List.set_cons_zero, List.set_cons_succ]
        refine take_op (i := 19) (d := 160) (OP := Op.indexAddr 58 (Operand.tmp 158) (Operand.tmp 159)) (T := 0) (v := ?vq20x) rfl rfl rfl rfl (by kernel_rfl) (by kernel_rfl) (by kernel_rfl) (fun _ _ _ h => h) (by rfl) ?hq20x hHeld ?rq20x
        case hq20x => (intro w' hSw; (try dsimp only at hSw); go_simp <;> with_reducible rfl)
        try simp only [Act.put, List.setIfInBounds_toArray, List.set_cons_zero, List.set_cons_succ]
        refine take_op (i := 20) (d := 161) (OP := Op.load 50 (Operand.tmp 160)) (T := 50) (v := ?vq21x) rfl rfl rfl rfl (by kernel_rfl) (by kernel_rfl) (by kernel_rfl) (fun _ _ _ h => h) (by rfl) ?hq21x hHeld ?rq21x
        case hq21x => (intro w' hSw; (try dsimp only at hSw); go_simp <;> with_reducible rfl)
        try simp only [Act.put, List.setIfInBounds_toArray, List.set_cons_zero, List.set_cons_succ]
        refine call_op (i := 21) (d := 162) (OP := Op.call { callee := Callee.value (Operand.func 31), args := #[Operand.tmp 154, Operand.tmp 161], argTypes := #[50, 50] }) (T := 4) (f := 31) (args := #[.agg #[.int .i64 x.kind, .int .i64 x.area, .slice ao x.data.length c], .agg #[.int .i64 x.kind, .int .i64 x.area, .slice ar x.data.length cr]]) rfl rfl rfl rfl (by kernel_rfl) (by rfl) (by go_simp) ?_
        refine (hsw26).mono ?_
        rintro e W3 ⟨rfl, b3⟩
        have hS3 : W3.cell? ⟨w2.heap.size + 1, 0, none⟩ = some (.int .i64 (k : Int)) ∧ W3.cell? ⟨w.heap.size + 1, 0, none⟩ = some (.pointer (some ⟨R, 0, none⟩)) ∧ W3.cell? ⟨R, 7, none⟩ = some (.slice (some ⟨g, 0, none⟩) log.length lc) ∧ W3.cell? ⟨W.heap.size, 0, none⟩ = some (.int .i64 x.kind) ∧ W3.cell? ⟨W.heap.size, 1, none⟩ = some (.int .i64 x.area) ∧ W3.cell? ⟨W.heap.size, 2, none⟩ = some (.slice ao x.data.length c) ∧ W3.cell? ⟨g, k * 3, none⟩ = some (.int .i64 x.kind) ∧ W3.cell? ⟨g, k * 3 + 1, none⟩ = some (.int .i64 x.area) ∧ W3.cell? ⟨g, k * 3 + 2, none⟩ = some (.slice ar x.data.length cr) := ⟨(b3.cell (World.block_lt_of_cell? _ _ hHeld.1)).trans hHeld.1, (b3.cell (World.block_lt_of_cell? _ _ hHeld.2.1)).trans hHeld.2.1, (b3.cell (World.block_lt_of_cell? _ _ hHeld.2.2.1)).trans hHeld.2.2.1, (b3.cell (World.block_lt_of_cell? _ _ hHeld.2.2.2.1)).trans hHeld.2.2.2.1, (b3.cell (World.block_lt_of_cell? _ _ hHeld.2.2.2.2.1)).trans hHeld.2.2.2.2.1, (b3.cell (World.block_lt_of_cell? _ _ hHeld.2.2.2.2.2.1)).trans hHeld.2.2.2.2.2.1, (b3.cell (World.block_lt_of_cell? _ _ hHeld.2.2.2.2.2.2.1)).trans hHeld.2.2.2.2.2.2.1, (b3.cell (World.block_lt_of_cell? _ _ hHeld.2.2.2.2.2.2.2.1)).trans hHeld.2.2.2.2.2.2.2.1, (b3.cell (World.block_lt_of_cell? _ _ hHeld.2.2.2.2.2.2.2.2)).trans hHeld.2.2.2.2.2.2.2.2⟩
        refine ⟨_, rfl, hS3, ?_⟩
        replace hHeld := hS3
        try simp only [Act.put, List.setIfInBounds_toArray, List.set_cons_zero, List.set_cons_succ]
        refine take_op (i := 22) (d := 163) (OP := Op.unOp UnOp.not 4 (Operand.tmp 162)) (T := 4) (v := ?vq23x) rfl rfl rfl rfl (by kernel_rfl) (by kernel_rfl) (by kernel_rfl) (fun _ _ _ h => h) (by rfl) ?hq23x hHeld ?rq23x
        case hq23x => (intro w' hSw; (try dsimp only at hSw); go_simp <;> with_reducible rfl)
        try simp only [Act.put, List.setIfInBounds_toArray, List.set_cons_zero, List.set_cons_succ]
        refine take_op (i := 23) (d := 164) (OP := Op.pick (Operand.tmp 153) (Operand.const (Value.bool true)) (Operand.tmp 163)) (T := 4) (v := ?vq24x) rfl rfl rfl rfl (by kernel_rfl) (by kernel_rfl) (by kernel_rfl) (fun _ _ _ h => h) (by rfl) ?hq24x hHeld ?rq24x
        case hq24x => (intro w' hSw; (try dsimp only at hSw); go_simp <;> with_reducible rfl)
        try simp only [Act.put, List.setIfInBounds_toArray, List.set_cons_zero, List.set_cons_succ]
        refine wpAnyH_done (by kernel_rfl) ?_ _
        have b23 : Below W2.heap.size W2 W3 := below_undrew0 b3
        have hi3 := HI2.out.1.below b23
        have own3 := HI2.out.2.below b23
        have hY : ∀ j, Value.ownBlock (.slice ao x.data.length c) = some j → w2.heap.size + 1 + 3 ≤ j := fun j hj => by have := (own_new HI2.out.2 j hj).1; omega
        have hov := over_any ao c W0.heap.size x.data W3 own3 hxl
        have w2' := hS3.2.2.2.2.2.1
        have hK4 : ∀ W4, Only (fun j => Value.ownBlock (.slice ao x.data.length c) = some j) W3 W4 → Hid (TurnI wN0 (w2.heap.size + 1) k W4) ∧ W4.cell? ⟨w.heap.size, 0, none⟩ = some (.pointer (some ⟨D, 0, none⟩)) ∧ W4.cell? ⟨w2.heap.size + 1, 0, none⟩ = some (.int .i64 (k : Int)) ∧ Calls Try.prog 20 #[.pointer (some ⟨D, 0, none⟩), .int .i64 k] W4 (fun e w' => ∃ ao c, e = .returned (.tuple #[.agg #[.int .i64 x.kind, .int .i64 x.area, .slice ao x.data.length c], .int .i64 0]) ∧ Own 5 w' W4.heap.size (.slice ao x.data.length c) x.data ∧ (ao = none → c = 0) ∧ Below W4.heap.size W4 w') := fun W4 hon => by
          have h4 : TurnI wN0 (w2.heap.size + 1) k W4 := hi3.only (fun j hj => by have := hY j hj; omega) hon
          obtain ⟨e1, _, _, _, _, eP, _⟩ := HF0.out W4 h4.1
          exact ⟨hide h4, e1, h4.cell.1, write_yes eP k x hx hxl⟩
        clear hHeld hS26 hS3 hsw26 hi3 own3
        gi_wp2_with (first
          | (refine ⟨trivial, ?_⟩; gi_at_call 29; refine (CallsIn.inRound _ (callsIn_wide.2 hov)).mono ?_; rintro e W4 ⟨⟨v, rfl⟩, hon⟩; obtain ⟨HI4, p4, n4, hwr4⟩ := hK4 W4 hon)
          | (refine ⟨trivial, ?_⟩; gi_at_call 20; refine (CallsIn.inRound _ (callsIn_wide.2 hwr4)).mono ?_; rintro e W5 ⟨a5, c5, rfl, own5, _, b5⟩))
        have b6 : Below W5.heap.size W5 (W5.alloc (.cells #[.int .i64 x.kind, .int .i64 x.area, .slice a5 x.data.length c5] 50)).drew := ((Below.refl _ W5).alloc (Nat.le_refl _) _).drew
        have hi6 := (HI4.out.below b5).below b6
        obtain ⟨g0, g1, g2, _⟩ := blk3 (w := (W5.alloc (.cells #[.int .i64 x.kind, .int .i64 x.area, .slice a5 x.data.length c5] 50)).drew) (R := W5.heap.size) (heap_alloc_new W5 _)
        obtain ⟨_, e2, _, _, eS, _, _⟩ := HF0.out _ hi6.1
        obtain ⟨g', ar', cr', hlo', i1, i2, i3, rdR⟩ := eS.item k x hx
        have e7 := eS.box
        rw [hlo] at hlo'
        cases hlo'
        rw [hlo] at e7
        have n6 := hi6.cell.1
        have own6 := own5.below b6
        have hS30 : (W5.alloc (.cells #[.int .i64 x.kind, .int .i64 x.area, .slice a5 x.data.length c5] 50)).drew.cell? ⟨w2.heap.size + 1, 0, none⟩ = some (.int .i64 (k : Int)) ∧ (W5.alloc (.cells #[.int .i64 x.kind, .int .i64 x.area, .slice a5 x.data.length c5] 50)).drew.cell? ⟨w.heap.size + 1, 0, none⟩ = some (.pointer (some ⟨R, 0, none⟩)) ∧ (W5.alloc (.cells #[.int .i64 x.kind, .int .i64 x.area, .slice a5 x.data.length c5] 50)).drew.cell? ⟨R, 7, none⟩ = some (.slice (some ⟨g, 0, none⟩) log.length lc) ∧ (W5.alloc (.cells #[.int .i64 x.kind, .int .i64 x.area, .slice a5 x.data.length c5] 50)).drew.cell? ⟨W5.heap.size, 0, none⟩ = some (.int .i64 x.kind) ∧ (W5.alloc (.cells #[.int .i64 x.kind, .int .i64 x.area, .slice a5 x.data.length c5] 50)).drew.cell? ⟨W5.heap.size, 1, none⟩ = some (.int .i64 x.area) ∧ (W5.alloc (.cells #[.int .i64 x.kind, .int .i64 x.area, .slice a5 x.data.length c5] 50)).drew.cell? ⟨W5.heap.size, 2, none⟩ = some (.slice a5 x.data.length c5) ∧ (W5.alloc (.cells #[.int .i64 x.kind, .int .i64 x.area, .slice a5 x.data.length c5] 50)).drew.cell? ⟨g, k * 3, none⟩ = some (.int .i64 x.kind) ∧ (W5.alloc (.cells #[.int .i64 x.kind, .int .i64 x.area, .slice a5 x.data.length c5] 50)).drew.cell? ⟨g, k * 3 + 1, none⟩ = some (.int .i64 x.area) ∧ (W5.alloc (.cells #[.int .i64 x.kind, .int .i64 x.area, .slice a5 x.data.length c5] 50)).drew.cell? ⟨g, k * 3 + 2, none⟩ = some (.slice ar' x.data.length cr') := ⟨n6, e2, e7, g0, g1, g2, i1, i2, i3⟩
        have hsw30 := sameWrite_yes x.kind x.area a5 ar' c5 cr' x.data _ own6.rd rdR
        unfold wrv at hsw30
        have HI6 := hide (And.intro hi6 (And.intro b5 b6))
        clear n6 e2 eS e7 g0 g1 g2 i1 i2 i3 rdR hi6 own6 own5 p4 n4 hwr4 hK4 hov w2' b6 b5
        refine region_in (S := (fun w' => w'.cell? ⟨w2.heap.size + 1, 0, none⟩ = some (.int .i64 (k : Int)) ∧ w'.cell? ⟨w.heap.size + 1, 0, none⟩ = some (.pointer (some ⟨R, 0, none⟩)) ∧ w'.cell? ⟨R, 7, none⟩ = some (.slice (some ⟨g, 0, none⟩) log.length lc) ∧ w'.cell? ⟨W5.heap.size, 0, none⟩ = some (.int .i64 x.kind) ∧ w'.cell? ⟨W5.heap.size, 1, none⟩ = some (.int .i64 x.area) ∧ w'.cell? ⟨W5.heap.size, 2, none⟩ = some (.slice a5 x.data.length c5) ∧ w'.cell? ⟨g, k * 3, none⟩ = some (.int .i64 x.kind) ∧ w'.cell? ⟨g, k * 3 + 1, none⟩ = some (.int .i64 x.area) ∧ w'.cell? ⟨g, k * 3 + 2, none⟩ = some (.slice ar' x.data.length cr'))) (by kernel_rfl) (by kernel_rfl) (fun _ _ h => h) (by exact hS30) (fun hHeld => ?_)
        try dsimp only at hHeld
        refine take_op (i := 0) (d := 174) (OP := Op.move (Operand.tmp 16)) (T := 29) (v := ?vq25x) rfl rfl rfl rfl (by kernel_rfl) (by kernel_rfl) (by kernel_rfl) (fun _ _ _ h => h) (by rfl) ?hq25x hHeld ?rq25x
        case hq25x => (intro w' hSw; (try dsimp only at hSw); go_simp <;> with_reducible rfl)
        try simp only [Act.put, List.setIfInBounds_toArray, List.set_cons_zero, List.set_cons_succ]
        refine take_op (i := 1) (d := 175) (OP := Op.binOp BinOp.neq 29 (Operand.tmp 174) (Operand.const (Value.int IntKind.i64 0)) 29) (T := 4) (v := ?vq26x) rfl rfl rfl rfl (by kernel_rfl) (by kernel_rfl) (by kernel_rfl) (fun _ _ _ h => h) (by rfl) ?hq26x hHeld ?rq26x
        case hq26x => (intro w' hSw; (try dsimp only at hSw); go_simp <;> with_reducible rfl)
        try simp only [Act.put, List.setIfInBounds_toArray, List.set_cons_zero, List.set_cons_succ]
        refine take_op (i := 2) (d := 176) (OP := Op.move (Operand.tmp 175)) (T := 4) (v := ?vq27x) rfl rfl rfl rfl (by kernel_rfl) (by kernel_rfl) (by kernel_rfl) (fun _ _ _ h => h) (by rfl) ?hq27x hHeld ?rq27x
        case hq27x => (intro w' hSw; (try dsimp only at hSw); go_simp <;> with_reducible rfl)
        try simp only [Act.put, List.setIfInBounds_toArray, List.set_cons_zero, List.set_cons_succ]
        refine take_op (i := 3) (d := 177) (OP := Op.load 50 (Operand.tmp 15)) (T := 50) (v := ?vq28x) rfl rfl rfl rfl (by kernel_rfl) (by kernel_rfl) (by kernel_rfl) (fun _ _ _ h => h) (by rfl) ?hq28x hHeld ?rq28x
        case hq28x => (intro w' hSw; (try dsimp only at hSw); go_simp <;> with_reducible rfl)
        try simp only [Act.put, List.setIfInBounds_toArray, List.set_cons_zero, List.set_cons_succ]
        refine take_op (i := 4) (d := 178) (OP := Op.load 32 (Operand.tmp 4)) (T := 32) (v := ?vq29x) rfl rfl rfl rfl (by kernel_rfl) (by kernel_rfl) (by kernel_rfl) (fun _ _ _ h => h) (by rfl) ?hq29x hHeld ?rq29x
        case hq29x => (intro w' hSw; (try dsimp only at hSw); go_simp <;> with_reducible rfl)
        try simp only [Act.put, List.setIfInBounds_toArray, List.set_cons_zero, List.set_cons_succ]
        refine take_op (i := 5) (d := 179) (OP := Op.nilCheck (Operand.tmp 178)) (T := 0) (v := ?vq30x) rfl rfl rfl rfl (by kernel_rfl) (by kernel_rfl) (by kernel_rfl) (fun _ _ _ h => h) (by rfl) ?hq30x hHeld ?rq30x
        case hq30x => (intro w' hSw; (try dsimp only at hSw); go_simp <;> with_reducible rfl)
        try simp only [Act.put, List.setIfInBounds_toArray, List.set_cons_zero, List.set_cons_succ]
        refine take_op (i := 6) (d := 180) (OP := Op.fieldAddr 70 (Operand.tmp 179) 5) (T := 0) (v := ?vq31x) rfl rfl rfl rfl (by kernel_rfl) (by kernel_rfl) (by kernel_rfl) (fun _ _ _ h => h) (by rfl) ?hq31x hHeld ?rq31x
        case hq31x => (intro w' hSw; (try dsimp only at hSw); go_simp <;> with_reducible rfl)
        try simp only [Act.put, List.setIfInBounds_toArray, List.set_cons_zero, List.set_cons_succ]
        refine take_op (i := 7) (d := 181) (OP := Op.load 58 (Operand.tmp 180)) (T := 58) (v := ?vq32x) rfl rfl rfl rfl (by kernel_rfl) (by kernel_rfl) (by kernel_rfl) (fun _ _ _ h => h) (by rfl) ?hq32x hHeld ?rq32x
        case hq32x => (intro w' hSw; (try dsimp only at hSw); go_simp <;> with_reducible rfl)
        try simp only [Act.put, List.setIfInBounds_toArray, List.set_cons_zero, List.set_cons_succ]
        refine take_op (i := 8) (d := 182) (OP := Op.load 3 (Operand.tmp 12)) (T := 3) (v := ?vq33x) rfl rfl rfl rfl (by kernel_rfl) (by kernel_rfl) (by kernel_rfl) (fun _ _ _ h => h) (by rfl) ?hq33x hHeld ?rq33x
        case hq33x => (intro w' hSw; (try dsimp only at hSw); go_simp <;> with_reducible rfl)
        try simp only [Act.put, List.setIfInBounds_toArray, List.set_cons_zero, List.set_cons_succ]
        refine take_op (i := 9) (d := 183) (OP := Op.indexAddr 58 (Operand.tmp 181) (Operand.tmp 182)) (T := 0) (v := ?vq34x) rfl rfl rfl rfl (by kernel_rfl) (by kernel_rfl) (by kernel_rfl) (fun _ _ _ h => h) (by rfl) ?hq34x hHeld ?rq34x
        case hq34x => (intro w' hSw; (try dsimp only at hSw); go_simp <;> with_reducible rfl)
        try simp only [Act.put, List.setIfInBounds_toArray, List.set_cons_zero, List.set_cons_succ]
        refine take_op (i := 10) (d := 184) (OP := Op.load 50 (Operand.tmp 183)) (T := 50) (v := ?vq35x) rfl rfl rfl rfl (by kernel_rfl) (by kernel_rfl) (by kernel_rfl) (fun _ _ _ h => h) (by rfl) ?hq35x hHeld ?rq35x
        case hq35x => (intro w' hSw; (try dsimp only at hSw); go_simp <;> with_reducible rfl)
        try simp only [Act.put, List.setIfInBounds_toArray, List.set_cons_zero, List.set_cons_succ]
        refine call_op (i := 11) (d := 185) (OP := Op.call { callee := Callee.value (Operand.func 31), args := #[Operand.tmp 177, Operand.tmp 184], argTypes := #[50, 50] }) (T := 4) (f := 31) (args := #[.agg #[.int .i64 x.kind, .int .i64 x.area, .slice a5 x.data.length c5], .agg #[.int .i64 x.kind, .int .i64 x.area, .slice ar' x.data.length cr']]) rfl rfl rfl rfl (by kernel_rfl) (by rfl) (by go_simp) ?_
        refine (hsw30).mono ?_
        rintro e W7 ⟨rfl, b7⟩
        have hS7 : W7.cell? ⟨w2.heap.size + 1, 0, none⟩ = some (.int .i64 (k : Int)) ∧ W7.cell? ⟨w.heap.size + 1, 0, none⟩ = some (.pointer (some ⟨R, 0, none⟩)) ∧ W7.cell? ⟨R, 7, none⟩ = some (.slice (some ⟨g, 0, none⟩) log.length lc) ∧ W7.cell? ⟨W5.heap.size, 0, none⟩ = some (.int .i64 x.kind) ∧ W7.cell? ⟨W5.heap.size, 1, none⟩ = some (.int .i64 x.area) ∧ W7.cell? ⟨W5.heap.size, 2, none⟩ = some (.slice a5 x.data.length c5) ∧ W7.cell? ⟨g, k * 3, none⟩ = some (.int .i64 x.kind) ∧ W7.cell? ⟨g, k * 3 + 1, none⟩ = some (.int .i64 x.area) ∧ W7.cell? ⟨g, k * 3 + 2, none⟩ = some (.slice ar' x.data.length cr') := ⟨(b7.cell (World.block_lt_of_cell? _ _ hHeld.1)).trans hHeld.1, (b7.cell (World.block_lt_of_cell? _ _ hHeld.2.1)).trans hHeld.2.1, (b7.cell (World.block_lt_of_cell? _ _ hHeld.2.2.1)).trans hHeld.2.2.1, (b7.cell (World.block_lt_of_cell? _ _ hHeld.2.2.2.1)).trans hHeld.2.2.2.1, (b7.cell (World.block_lt_of_cell? _ _ hHeld.2.2.2.2.1)).trans hHeld.2.2.2.2.1, (b7.cell (World.block_lt_of_cell? _ _ hHeld.2.2.2.2.2.1)).trans hHeld.2.2.2.2.2.1, (b7.cell (World.block_lt_of_cell? _ _ hHeld.2.2.2.2.2.2.1)).trans hHeld.2.2.2.2.2.2.1, (b7.cell (World.block_lt_of_cell? _ _ hHeld.2.2.2.2.2.2.2.1)).trans hHeld.2.2.2.2.2.2.2.1, (b7.cell (World.block_lt_of_cell? _ _ hHeld.2.2.2.2.2.2.2.2)).trans hHeld.2.2.2.2.2.2.2.2⟩
        refine ⟨_, rfl, hS7, ?_⟩
        replace hHeld := hS7
        try simp only [Act.put, List.setIfInBounds_toArray, List.set_cons_zero, List.set_cons_succ]
        refine take_op (i := 12) (d := 186) (OP := Op.unOp UnOp.not 4 (Operand.tmp 185)) (T := 4) (v := ?vq37x) rfl rfl rfl rfl (by kernel_rfl) (by kernel_rfl) (by kernel_rfl) (fun _ _ _ h => h) (by rfl) ?hq37x hHeld ?rq37x
        case hq37x => (intro w' hSw; (try dsimp only at hSw); go_simp <;> with_reducible rfl)
        try simp only [Act.put, List.setIfInBounds_toArray, List.set_cons_zero, List.set_cons_succ]
        refine take_op (i := 13) (d := 187) (OP := Op.pick (Operand.tmp 176) (Operand.const (Value.bool true)) (Operand.tmp 186)) (T := 4) (v := ?vq38x) rfl rfl rfl rfl (by kernel_rfl) (by kernel_rfl) (by kernel_rfl) (fun _ _ _ h => h) (by rfl) ?hq38x hHeld ?rq38x
        case hq38x => (intro w' hSw; (try dsimp only at hSw); go_simp <;> with_reducible rfl)
        try simp only [Act.put, List.setIfInBounds_toArray, List.set_cons_zero, List.set_cons_succ]
        refine wpAnyH_done (by kernel_rfl) ?_ _
        have b47 : Below W4.heap.size W4 W7 := (HI6.out.2.1.trans (HI6.out.2.2.mono HI6.out.2.1.size)).trans (b7.mono (Nat.le_trans HI6.out.2.1.size HI6.out.2.2.size))
        have hi7 := HI4.out.below b47
        obtain ⟨n7, z7⟩ := hi7.cell
        obtain ⟨_, _, e3, e4, _, _, _⟩ := HF0.out W7 hi7.1
        have hEnd := turn_end b23 hon hY b47 hi7
        have hne1 : ¬ (w.heap.size + 1 + 1 = w2.heap.size + 1) := by omega
        have hne2 : ¬ (w2.heap.size + 1 = w.heap.size + 1 + 1) := by omega
        have hne3 : ¬ (w.heap.size + 1 = w2.heap.size) := by omega
        have hne4 : ¬ (w2.heap.size = w.heap.size + 1) := by omega
        clear hHeld hS30 hS7 hsw30 b7
        by_cases hlv : (k : Int) + 1 = leave
        · subst hlv
          gi_wp2
          obtain ⟨f1, f2⟩ := hEnd
          exact ⟨f1, rfl, by simp, k + 1, by simp, f2⟩
        · have hlb : ((k : Int) + 1 == leave) = false := by simpa using hlv
          gi_wp2
          exact hEnd

      case hdone =>
        intro W hJ hlsW hK0
        obtain ⟨k, hk, hi⟩ := hJ
        obtain ⟨e1, e2, e3, e4, eS, eP, _⟩ := HF0.out W hi.1
        have e7 := eS.box
        have n7 := hi.cell.1
        have bW : Hid (Below w1.heap.size w1 W) := hide (bw1N0.trans (hi.1.mono (by omega)))
        have hsW : w2.heap.size + 1 < W.heap.size := hi.size
        clear hI0 hlogA bA0 bN hTc eS eP hi
        by_cases hkl : k = log.length
        · subst hkl
          go_wp2
          go_quiet (fail)
          have hw3 : Below W.heap.size W (W.drewN nq) := below_drew W nq
          have h4w : (W.drewN nq).cell? ⟨w2.heap.size, 0, none⟩ = some (.int .i64 0) := e4
          generalize W.drewN nq = w3 at hw3 h4w ⊢
          have hsw3 := hw3.size
          have hwww3 : Hid (Below w1.heap.size w1 w3) := hide (bW.out.trans (hw3.mono bW.out.size))
          have hK0' : w3.heap[wA0.heap.size]? = some (.deferred (some [])) := (hw3.block _ hlsW).trans hK0
          have hlt0 : wA0.heap.size < w3.heap.size := Nat.lt_of_lt_of_le hlsW hsw3
          clear e1 e2 e3 e4 e7 n7
          go_wp2
          rw [rounds_succ]
          go_wp2
          obtain ⟨wN1, hwN⟩ : ∃ wN, w3.alloc (.cells #[.int .i64 1] 3) = wN := ⟨_, rfl⟩
          have hsN1 : wN1.heap.size = w3.heap.size + 1 := by rw [← hwN]; simp
          have hTc : wN1.cell? ⟨w3.heap.size, 0, none⟩ = some (.int .i64 1) := by rw [← hwN, cell_of_row _ _ 0 _ 3 (0, 0) (heap_alloc_new w3 _)]; rfl
          have bN : Below w3.heap.size w3 wN1 := by rw [← hwN]; exact (Below.refl _ w3).alloc (Nat.le_refl _) _
          rw [hwN]
          clear hwN
          obtain ⟨wA1, hwA⟩ : ∃ wA1, wN1.alloc (.cells #[.int .i64 0] 3) = wA1 := ⟨_, rfl⟩
          have hsA1 : wA1.heap.size = w3.heap.size + 1 + 1 := by rw [← hwA]; simp [hsN1]
          have bA1 : Below wN1.heap.size wN1 wA1 := by rw [← hwA]; exact (Below.refl _ wN1).alloc (Nat.le_refl _) _
          have hI0 : TurnI wN1 (w3.heap.size + 1) 0 wA1 := ⟨by rw [← hsN1]; exact bA1, by rw [← hsN1, ← hwA]; exact heap_alloc_new wN1 _⟩
          rw [hwA]
          clear hwA
          have bw1N1 : Below w1.heap.size w1 wN1 := hwww3.out.trans (bN.mono (by omega))
          have HF1 : Hid (∀ W, Below (w3.heap.size + 1) wN1 W → W.cell? ⟨w.heap.size, 0, none⟩ = some (.pointer (some ⟨D, 0, none⟩)) ∧ W.cell? ⟨w.heap.size + 1, 0, none⟩ = some (.pointer (some ⟨R, 0, none⟩)) ∧ W.cell? ⟨w.heap.size + 1 + 1, 0, none⟩ = some (.int .i64 leave) ∧ W.cell? ⟨w3.heap.size, 0, none⟩ = some (.int .i64 1) ∧ Seen W R log lo lc ∧ PD Fd Gd W D cap beg log ∧ Below (w.heap.size + 4) (stW w (.pointer (some ⟨D, 0, none⟩)) (.pointer (some ⟨R, 0, none⟩)) leave) W) := hide (fun W hW => by
            have q1 : Below w1.heap.size w1 W := bw1N1.trans (hW.mono (by omega))
            have q2 := HB1.out.trans (q1.mono (by omega))
            obtain ⟨p1, p2, p3, _⟩ := stW_boxes w (.pointer (some ⟨D, 0, none⟩)) (.pointer (some ⟨R, 0, none⟩)) leave W q2
            exact ⟨p1, p2, p3, (hW.cell (by simp)).trans hTc, HN.out.2.1.below q1, HN.out.1.below q1, q2⟩)
          have hlogA : LogAt wA1 L lv Gd log ys := LogAt.below (W := w1) ⟨HL.out.1, HL.out.2.1, HL.out.2.2.1⟩ (bw1N1.trans (bA1.mono (by omega)))
          have hDb : ∀ j, j < w3.heap.size + 1 → ¬ TurnD (w3.heap.size + 1) j := fun j hj e => by unfold TurnD at e; omega
          refine range_break (Q := _) 5 L lv Gd log ys rfl rfl hlogA ?hlen (by omega) (TurnD (w3.heap.size + 1)) (hDb _ (by omega)) (by unfold TurnD; omega) (by unfold TurnD; omega) (fun j hj => hDb _ (by have := HN.out.2.2 j (HL.out.2.2.2 j hj); omega)) (fun j hj hg => hDb _ (by have := HG.out j hg; omega) hj) (fun j hg => by have := HG.out j hg; omega)
            (TurnI wN1 (w3.heap.size + 1)) (fun W => (1 : Nat) = 0 ∧ ∃ k : Nat, (k : Int) = leave ∧ TurnI wN1 (w3.heap.size + 1) k W) (fun W => ∃ k : Nat, (k = log.length ∨ ((1 : Nat) = 0 ∧ (k : Int) = leave)) ∧ TurnI wN1 (w3.heap.size + 1) k W)
            (fun k W W' hi ho => hi.only (by intro j e; omega) ho) (fun W W' hi ho => ⟨hi.1, hi.2.choose, hi.2.choose_spec.1, hi.2.choose_spec.2.only (by intro j e; omega) ho⟩) hI0 ?hround (fun _ _ h => h) (fun W h => ⟨_, .inl rfl, h⟩) (fun W h => ⟨_, .inr ⟨h.1, h.2.choose_spec.1⟩, h.2.choose_spec.2⟩) ?hdone
          case hlen => exact fun x hx => by have := (hfits.2 x hx).len; omega
          case hround =>
            intro k x ao c W0 W hx hi hbW0 hH hls
            have hkl : k < log.length := (List.getElem?_eq_some_iff.1 hx).1
            have hki : (k : Int) < (log.length : Int) := by omega
            have hdk : decide ((log.length : Int) ≤ (k : Int)) = false := by simp; omega
            have hdk2 : decide (log.length ≤ k) = false := by simp; omega
            have hsW := hbW0.size
            have hxl : x.data.length ≤ 140737488355328 := by have := (hfits.2 x (List.mem_of_getElem? hx)).len; omega
            have hbX : Below W.heap.size W (W.alloc (.cells #[.int .i64 x.kind, .int .i64 x.area, .slice ao x.data.length c] 50)) := (Below.refl _ W).alloc (Nat.le_refl _) _
            have hsX : (W.alloc (.cells #[.int .i64 x.kind, .int .i64 x.area, .slice ao x.data.length c] 50)).heap.size = W.heap.size + 1 := by simp
            have hiX := (hi.below hbW0).below hbX
            have hoX := hH.own.below hbX
            have hWc := heap_alloc_new W (.cells #[.int .i64 x.kind, .int .i64 x.area, .slice ao x.data.length c] 50)
            clear hI0 hlogA bA1 bN hTc
            gi_wp2
            refine ⟨(Only.refl _ W).alloc _, fun W2 ho2 => ?_⟩
            have hs2 := ho2.size
            have hi2 : TurnI wN1 (w3.heap.size + 1) k W2 := hiX.only (by intro j e; omega) ho2
            have own2 : Own 5 W2 W0.heap.size (.slice ao x.data.length c) x.data := ho2.own hoX (fun j hj e => by have := (own_new hoX j hj).1; omega)
            obtain ⟨g0, g1, g2, _⟩ := blk3 ((ho2.block W.heap.size (by omega) (by omega)).trans hWc)
            obtain ⟨e1, e2, e3, e4, eS, eP, _⟩ := HF1.out W2 hi2.1
            obtain ⟨g, ar, cr, hlo, i1, i2, i3, rdR⟩ := eS.item k x hx
            have e7 := eS.box
            rw [hlo] at e7
            have n0 := hi2.cell.1
            have hS26 : W2.drew.cell? ⟨w3.heap.size + 1, 0, none⟩ = some (.int .i64 (k : Int)) ∧ W2.drew.cell? ⟨w.heap.size + 1, 0, none⟩ = some (.pointer (some ⟨R, 0, none⟩)) ∧ W2.drew.cell? ⟨R, 7, none⟩ = some (.slice (some ⟨g, 0, none⟩) log.length lc) ∧ W2.drew.cell? ⟨W.heap.size, 0, none⟩ = some (.int .i64 x.kind) ∧ W2.drew.cell? ⟨W.heap.size, 1, none⟩ = some (.int .i64 x.area) ∧ W2.drew.cell? ⟨W.heap.size, 2, none⟩ = some (.slice ao x.data.length c) ∧ W2.drew.cell? ⟨g, k * 3, none⟩ = some (.int .i64 x.kind) ∧ W2.drew.cell? ⟨g, k * 3 + 1, none⟩ = some (.int .i64 x.area) ∧ W2.drew.cell? ⟨g, k * 3 + 2, none⟩ = some (.slice ar x.data.length cr) := ⟨n0, e2, e7, g0, g1, g2, i1, i2, i3⟩
            have hsw26 := sameWrite_yes x.kind x.area ao ar c cr x.data W2.drew own2.rd rdR
            unfold wrv at hsw26
            have HI2 := hide (And.intro hi2 own2)
            clear n0 e1 e2 e3 e4 eS eP e7 g0 g1 g2 i1 i2 i3 rdR hi hiX hoX hWc hH hbW0 hbX ho2 own2 hi2
            gi_wp2
            refine region_in (S := (fun w' => w'.cell? ⟨w3.heap.size + 1, 0, none⟩ = some (.int .i64 (k : Int)) ∧ w'.cell? ⟨w.heap.size + 1, 0, none⟩ = some (.pointer (some ⟨R, 0, none⟩)) ∧ w'.cell? ⟨R, 7, none⟩ = some (.slice (some ⟨g, 0, none⟩) log.length lc) ∧ w'.cell? ⟨W.heap.size, 0, none⟩ = some (.int .i64 x.kind) ∧ w'.cell? ⟨W.heap.size, 1, none⟩ = some (.int .i64 x.area) ∧ w'.cell? ⟨W.heap.size, 2, none⟩ = some (.slice ao x.data.length c) ∧ w'.cell? ⟨g, k * 3, none⟩ = some (.int .i64 x.kind) ∧ w'.cell? ⟨g, k * 3 + 1, none⟩ = some (.int .i64 x.area) ∧ w'.cell? ⟨g, k * 3 + 2, none⟩ = some (.slice ar x.data.length cr))) (by kernel_rfl) (by kernel_rfl) (fun _ _ h => h) (by exact hS26) (fun hHeld => ?_)
            try dsimp only at hHeld
            refine take_op (i := 0) (d := 141) (OP := Op.load 3 (Operand.tmp 12)) (T := 3) (v := ?vq39x) rfl rfl rfl rfl (by kernel_rfl) (by kernel_rfl) (by kernel_rfl) (fun _ _ _ h => h) (by rfl) ?hq39x hHeld ?rq39x
            case hq39x => (intro w' hSw; (try dsimp only at hSw); go_simp <;> with_reducible rfl)
            try simp only [Act.put, List.setIfInBounds_toArray, List.set_cons_zero, List.set_cons_succ]
            refine take_op (i := 1) (d := 142) (OP := Op.load 32 (Operand.tmp 4)) (T := 32) (v := ?vq40x) rfl rfl rfl rfl (by kernel_rfl) (by kernel_rfl) (by kernel_rfl) (fun _ _ _ h => h) (by rfl) ?hq40x hHeld ?rq40x
            case hq40x => (intro w' hSw; (try dsimp only at hSw); go_simp <;> with_reducible rfl)
            try simp only [Act.put, List.setIfInBounds_toArray, List.set_cons_zero, List.set_cons_succ]
            refine take_op (i := 2) (d := 143) (OP := Op.nilCheck (Operand.tmp 142)) (T := 0) (v := ?vq41x) rfl rfl rfl rfl (by kernel_rfl) (by kernel_rfl) (by kernel_rfl) (fun _ _ _ h => h) (by rfl) ?hq41x hHeld ?rq41x
            case hq41x => (intro w' hSw; (try dsimp only at hSw); go_simp <;> with_reducible rfl)
            try simp only [Act.put, List.setIfInBounds_toArray, List.set_cons_zero, List.set_cons_succ]
            refine take_op (i := 3) (d := 144) (OP := Op.fieldAddr 70 (Operand.tmp 143) 5) (T := 0) (v := ?vq42x) rfl rfl rfl rfl (by kernel_rfl) (by kernel_rfl) (by kernel_rfl) (fun _ _ _ h => h) (by rfl) ?hq42x hHeld ?rq42x
            case hq42x => (intro w' hSw; (try dsimp only at hSw); go_simp <;> with_reducible rfl)
            try simp only [Act.put, List.setIfInBounds_toArray, List.set_cons_zero, List.set_cons_succ]
            refine take_op (i := 4) (d := 145) (OP := Op.load 58 (Operand.tmp 144)) (T := 58) (v := ?vq43x) rfl rfl rfl rfl (by kernel_rfl) (by kernel_rfl) (by kernel_rfl) (fun _ _ _ h => h) (by rfl) ?hq43x hHeld ?rq43x
            case hq43x => (intro w' hSw; (try dsimp only at hSw); go_simp <;> with_reducible rfl)
            try simp only [Act.put, List.setIfInBounds_toArray, List.set_cons_zero, List.set_cons_succ]
            refine take_op (i := 5) (d := 146) (OP := Op.call { callee := Callee.builtin Builtin.len, args := #[Operand.tmp 145], argTypes := #[58] }) (T := 3) (v := ?vq44x) rfl rfl rfl rfl (by kernel_rfl) (by kernel_rfl) (by kernel_rfl) (fun _ _ _ h => h) (by rfl) ?hq44x hHeld ?rq44x
            case hq44x => (intro w' hSw; (try dsimp only at hSw); go_simp <;> with_reducible rfl)
            try simp only [Act.put, List.setIfInBounds_toArray, List.set_cons_zero, List.set_cons_succ]
            refine take_op (i := 6) (d := 147) (OP := Op.binOp BinOp.geq 3 (Operand.tmp 141) (Operand.tmp 146) 3) (T := 4) (v := ?vq45x) rfl rfl rfl rfl (by kernel_rfl) (by kernel_rfl) (by kernel_rfl) (fun _ _ _ h => h) (by rfl) ?hq45x hHeld ?rq45x
            case hq45x => (intro w' hSw; (try dsimp only at hSw); go_simp <;> with_reducible rfl)
            try simp only [Act.put, List.setIfInBounds_toArray, List.set_cons_zero, List.set_cons_succ]
            refine take_op (i := 7) (d := 148) (OP := Op.move (Operand.tmp 147)) (T := 4) (v := ?vq46x) rfl rfl rfl rfl (by kernel_rfl) (by kernel_rfl) (by kernel_rfl) (fun _ _ _ h => h) (by rfl) ?hq46x hHeld ?rq46x
            case hq46x => (intro w' hSw; (try dsimp only at hSw); go_simp <;> with_reducible rfl)
            try simp only [Act.put, List.setIfInBounds_toArray, List.set_cons_zero, List.set_cons_succ]
            refine take_op (i := 8) (d := 149) (OP := Op.move (Operand.tmp 13)) (T := 3) (v := ?vq47x) rfl rfl rfl rfl (by kernel_rfl) (by kernel_rfl) (by kernel_rfl) (fun _ _ _ h => h) (by rfl) ?hq47x hHeld ?rq47x
            case hq47x => (intro w' hSw; (try dsimp only at hSw); go_simp <;> with_reducible rfl)
            try simp only [Act.put, List.setIfInBounds_toArray, List.set_cons_zero, List.set_cons_succ]
            refine take_op (i := 9) (d := 150) (OP := Op.load 3 (Operand.tmp 12)) (T := 3) (v := ?vq48x) rfl rfl rfl rfl (by kernel_rfl) (by kernel_rfl) (by kernel_rfl) (fun _ _ _ h => h) (by rfl) ?hq48x hHeld ?rq48x
            case hq48x => (intro w' hSw; (try dsimp only at hSw); go_simp <;> with_reducible rfl)
            try simp only [Act.put, List.setIfInBounds_toArray, List.set_cons_zero, List.set_cons_succ]
            refine take_op (i := 10) (d := 151) (OP := Op.binOp BinOp.neq 3 (Operand.tmp 149) (Operand.tmp 150) 3) (T := 4) (v := ?vq49x) rfl rfl rfl rfl (by kernel_rfl) (by kernel_rfl) (by kernel_rfl) (fun _ _ _ h => h) (by rfl) ?hq49x hHeld ?rq49x
            case hq49x => (intro w' hSw; (try dsimp only at hSw); go_simp <;> with_reducible rfl)
            try simp only [Act.put, List.setIfInBounds_toArray, List.set_cons_zero, List.set_cons_succ]
            refine take_op (i := 11) (d := 152) (OP := Op.pick (Operand.tmp 148) (Operand.const (Value.bool true)) (Operand.tmp 151)) (T := 4) (v := ?vq50x) rfl rfl rfl rfl (by kernel_rfl) (by kernel_rfl) (by kernel_rfl) (fun _ _ _ h => h) (by rfl) ?hq50x hHeld ?rq50x
            case hq50x => (intro w' hSw; (try dsimp only at hSw); go_simp <;> with_reducible rfl)
            try simp only [Act.put, List.setIfInBounds_toArray, List.set_cons_zero, List.set_cons_succ]
            refine take_op (i := 12) (d := 153) (OP := Op.move (Operand.tmp 152)) (T := 4) (v := ?vq51x) rfl rfl rfl rfl (by kernel_rfl) (by kernel_rfl) (by kernel_rfl) (fun _ _ _ h => h) (by rfl) ?hq51x hHeld ?rq51x
            case hq51x => (intro w' hSw; (try dsimp only at hSw); go_simp <;> with_reducible rfl)
            try simp only [Act.put, List.setIfInBounds_toArray, List.set_cons_zero, List.set_cons_succ]
            refine take_op (i := 13) (d := 154) (OP := Op.load 50 (Operand.tmp 14)) (T := 50) (v := ?vq52x) rfl rfl rfl rfl (by kernel_rfl) (by kernel_rfl) (by kernel_rfl) (fun _ _ _ h => h) (by rfl) ?hq52x hHeld ?rq52x
            case hq52x => (intro w' hSw; (try dsimp only at hSw); go_simp <;> with_reducible rfl)
            try simp only [Act.put, List.setIfInBounds_toArray, List.set_cons_zero, List.set_cons_succ]
            refine take_op (i := 14) (d := 155) (OP := Op.load 32 (Operand.tmp 4)) (T := 32) (v := ?vq53x) rfl rfl rfl rfl (by kernel_rfl) (by kernel_rfl) (by kernel_rfl) (fun _ _ _ h => h) (by rfl) ?hq53x hHeld ?rq53x
            case hq53x => (intro w' hSw; (try dsimp only at hSw); go_simp <;> with_reducible rfl)
            try simp only [Act.put, List.setIfInBounds_toArray, List.set_cons_zero, List.set_cons_succ]
            refine take_op (i := 15) (d := 156) (OP := Op.nilCheck (Operand.tmp 155)) (T := 0) (v := ?vq54x) rfl rfl rfl rfl (by kernel_rfl) (by kernel_rfl) (by kernel_rfl) (fun _ _ _ h => h) (by rfl) ?hq54x hHeld ?rq54x
            case hq54x => (intro w' hSw; (try dsimp only at hSw); go_simp <;> with_reducible rfl)
            try simp only [Act.put, List.setIfInBounds_toArray, List.set_cons_zero, List.set_cons_succ]
            refine take_op (i := 16) (d := 157) (OP := Op.fieldAddr 70 (Operand.tmp 156) 5) (T := 0) (v := ?vq55x) rfl rfl rfl rfl (by kernel_rfl) (by kernel_rfl) (by kernel_rfl) (fun _ _ _ h => h) (by rfl) ?hq55x hHeld ?rq55x
            case hq55x => (intro w' hSw; (try dsimp only at hSw); go_simp <;> with_reducible rfl)
            try simp only [Act.put, List.setIfInBounds_toArray, List.set_cons_zero, List.set_cons_succ]
            refine take_op (i := 17) (d := 158) (OP := Op.load 58 (Operand.tmp 157)) (T := 58) (v := ?vq56x) rfl rfl rfl rfl (by kernel_rfl) (by kernel_rfl) (by kernel_rfl) (fun _ _ _ h => h) (by rfl) ?hq56x hHeld ?rq56x
            case hq56x => (intro w' hSw; (try dsimp only at hSw); go_simp <;> with_reducible rfl)
            try simp only [Act.put, List.setIfInBounds_toArray, List.set_cons_zero, List.set_cons_succ]
            refine take_op (i := 18) (d := 159) (OP := Op.load 3 (Operand.tmp 12)) (T := 3) (v := ?vq57x) rfl rfl rfl rfl (by kernel_rfl) (by kernel_rfl) (by kernel_rfl) (fun _ _ _ h => h) (by rfl) ?hq57x hHeld ?rq57x
            case hq57x => (intro w' hSw; (try dsimp only at hSw); go_simp <;> with_reducible rfl)
            try simp only [Act.put, List.setIfInBounds_toArray, List.set_cons_zero, List.set_cons_succ]
            refine take_op (i := 19) (d := 160) (OP := Op.indexAddr 58 (Operand.tmp 158) (Operand.tmp 159)) (T := 0) (v := ?vq58x) rfl rfl rfl rfl (by kernel_rfl) (by kernel_rfl) (by kernel_rfl) (fun _ _ _ h => h) (by rfl) ?hq58x hHeld ?rq58x
            case hq58x => (intro w' hSw; (try dsimp only at hSw); go_simp <;> with_reducible rfl)
            try simp only [Act.put, List.setIfInBounds_toArray, List.set_cons_zero, List.set_cons_succ]
            refine take_op (i := 20) (d := 161) (OP := Op.load 50 (Operand.tmp 160)) (T := 50) (v := ?vq59x) rfl rfl rfl rfl (by kernel_rfl) (by kernel_rfl) (by kernel_rfl) (fun _ _ _ h => h) (by rfl) ?hq59x hHeld ?rq59x
            case hq59x => (intro w' hSw; (try dsimp only at hSw); go_simp <;> with_reducible rfl)
            try simp only [Act.put, List.setIfInBounds_toArray, List.set_cons_zero, List.set_cons_succ]
            refine call_op (i := 21) (d := 162) (OP := Op.call { callee := Callee.value (Operand.func 31), args := #[Operand.tmp 154, Operand.tmp 161], argTypes := #[50, 50] }) (T := 4) (f := 31) (args := #[.agg #[.int .i64 x.kind, .int .i64 x.area, .slice ao x.data.length c], .agg #[.int .i64 x.kind, .int .i64 x.area, .slice ar x.data.length cr]]) rfl rfl rfl rfl (by kernel_rfl) (by rfl) (by go_simp) ?_
            refine (hsw26).mono ?_
            rintro e W3 ⟨rfl, b3⟩
            have hS3 : W3.cell? ⟨w3.heap.size + 1, 0, none⟩ = some (.int .i64 (k : Int)) ∧ W3.cell? ⟨w.heap.size + 1, 0, none⟩ = some (.pointer (some ⟨R, 0, none⟩)) ∧ W3.cell? ⟨R, 7, none⟩ = some (.slice (some ⟨g, 0, none⟩) log.length lc) ∧ W3.cell? ⟨W.heap.size, 0, none⟩ = some (.int .i64 x.kind) ∧ W3.cell? ⟨W.heap.size, 1, none⟩ = some (.int .i64 x.area) ∧ W3.cell? ⟨W.heap.size, 2, none⟩ = some (.slice ao x.data.length c) ∧ W3.cell? ⟨g, k * 3, none⟩ = some (.int .i64 x.kind) ∧ W3.cell? ⟨g, k * 3 + 1, none⟩ = some (.int .i64 x.area) ∧ W3.cell? ⟨g, k * 3 + 2, none⟩ = some (.slice ar x.data.length cr) := ⟨(b3.cell (World.block_lt_of_cell? _ _ hHeld.1)).trans hHeld.1, (b3.cell (World.block_lt_of_cell? _ _ hHeld.2.1)).trans hHeld.2.1, (b3.cell (World.block_lt_of_cell? _ _ hHeld.2.2.1)).trans hHeld.2.2.1, (b3.cell (World.block_lt_of_cell? _ _ hHeld.2.2.2.1)).trans hHeld.2.2.2.1, (b3.cell (World.block_lt_of_cell? _ _ hHeld.2.2.2.2.1)).trans hHeld.2.2.2.2.1, (b3.cell (World.block_lt_of_cell? _ _ hHeld.2.2.2.2.2.1)).trans hHeld.2.2.2.2.2.1, (b3.cell (World.block_lt_of_cell? _ _ hHeld.2.2.2.2.2.2.1)).trans hHeld.2.2.2.2.2.2.1, (b3.cell (World.block_lt_of_cell? _ _ hHeld.2.2.2.2.2.2.2.1)).trans hHeld.2.2.2.2.2.2.2.1, (b3.cell (World.block_lt_of_cell? _ _ hHeld.2.2.2.2.2.2.2.2)).trans hHeld.2.2.2.2.2.2.2.2⟩
            refine ⟨_, rfl, hS3, ?_⟩
            replace hHeld := hS3
            try simp only [Act.put, List.setIfInBounds_toArray, List.set_cons_zero, List.set_cons_succ]
            refine take_op (i := 22) (d := 163) (OP := Op.unOp UnOp.not 4 (Operand.tmp 162)) (T := 4) (v := ?vq61x) rfl rfl rfl rfl (by kernel_rfl) (by kernel_rfl) (by kernel_rfl) (fun _ _ _ h => h) (by rfl) ?hq61x hHeld ?rq61x
            case hq61x => (intro w' hSw; (try dsimp only at hSw); go_simp <;> with_reducible rfl)
            try simp only [Act.put, List.setIfInBounds_toArray, List.set_cons_zero, List.set_cons_succ]
            refine take_op (i := 23) (d := 164) (OP := Op.pick (Operand.tmp 153) (Operand.const (Value.bool true)) (Operand.tmp 163)) (T := 4) (v := ?vq62x) rfl rfl rfl rfl (by kernel_rfl) (by kernel_rfl) (by kernel_rfl) (fun _ _ _ h => h) (by rfl) ?hq62x hHeld ?rq62x
            case hq62x => (intro w' hSw; (try dsimp only at hSw); go_simp <;> with_reducible rfl)
            try simp only [Act.put, List.setIfInBounds_toArray, List.set_cons_zero, List.set_cons_succ]
            refine wpAnyH_done (by kernel_rfl) ?_ _
            have b23 : Below W2.heap.size W2 W3 := below_undrew0 b3
            have hi3 := HI2.out.1.below b23
            have own3 := HI2.out.2.below b23
            have hY : ∀ j, Value.ownBlock (.slice ao x.data.length c) = some j → w3.heap.size + 1 + 3 ≤ j := fun j hj => by have := (own_new HI2.out.2 j hj).1; omega
            have hov := over_any ao c W0.heap.size x.data W3 own3 hxl
            have w2' := hS3.2.2.2.2.2.1
            have hK4 : ∀ W4, Only (fun j => Value.ownBlock (.slice ao x.data.length c) = some j) W3 W4 → Hid (TurnI wN1 (w3.heap.size + 1) k W4) ∧ W4.cell? ⟨w.heap.size, 0, none⟩ = some (.pointer (some ⟨D, 0, none⟩)) ∧ W4.cell? ⟨w3.heap.size + 1, 0, none⟩ = some (.int .i64 (k : Int)) ∧ Calls Try.prog 20 #[.pointer (some ⟨D, 0, none⟩), .int .i64 k] W4 (fun e w' => ∃ ao c, e = .returned (.tuple #[.agg #[.int .i64 x.kind, .int .i64 x.area, .slice ao x.data.length c], .int .i64 0]) ∧ Own 5 w' W4.heap.size (.slice ao x.data.length c) x.data ∧ (ao = none → c = 0) ∧ Below W4.heap.size W4 w') := fun W4 hon => by
              have h4 : TurnI wN1 (w3.heap.size + 1) k W4 := hi3.only (fun j hj => by have := hY j hj; omega) hon
              obtain ⟨e1, _, _, _, _, eP, _⟩ := HF1.out W4 h4.1
              exact ⟨hide h4, e1, h4.cell.1, write_yes eP k x hx hxl⟩
            clear hHeld hS26 hS3 hsw26 hi3 own3
            gi_wp2_with (first
              | (refine ⟨trivial, ?_⟩; gi_at_call 29; refine (CallsIn.inRound _ (callsIn_wide.2 hov)).mono ?_; rintro e W4 ⟨⟨v, rfl⟩, hon⟩; obtain ⟨HI4, p4, n4, hwr4⟩ := hK4 W4 hon)
              | (refine ⟨trivial, ?_⟩; gi_at_call 20; refine (CallsIn.inRound _ (callsIn_wide.2 hwr4)).mono ?_; rintro e W5 ⟨a5, c5, rfl, own5, _, b5⟩))
            have b6 : Below W5.heap.size W5 (W5.alloc (.cells #[.int .i64 x.kind, .int .i64 x.area, .slice a5 x.data.length c5] 50)).drew := ((Below.refl _ W5).alloc (Nat.le_refl _) _).drew
            have hi6 := (HI4.out.below b5).below b6
            obtain ⟨g0, g1, g2, _⟩ := blk3 (w := (W5.alloc (.cells #[.int .i64 x.kind, .int .i64 x.area, .slice a5 x.data.length c5] 50)).drew) (R := W5.heap.size) (heap_alloc_new W5 _)
            obtain ⟨_, e2, _, _, eS, _, _⟩ := HF1.out _ hi6.1
            obtain ⟨g', ar', cr', hlo', i1, i2, i3, rdR⟩ := eS.item k x hx
            have e7 := eS.box
            rw [hlo] at hlo'
            cases hlo'
            rw [hlo] at e7
            have n6 := hi6.cell.1
            have own6 := own5.below b6
            have hS30 : (W5.alloc (.cells #[.int .i64 x.kind, .int .i64 x.area, .slice a5 x.data.length c5] 50)).drew.cell? ⟨w3.heap.size + 1, 0, none⟩ = some (.int .i64 (k : Int)) ∧ (W5.alloc (.cells #[.int .i64 x.kind, .int .i64 x.area, .slice a5 x.data.length c5] 50)).drew.cell? ⟨w.heap.size + 1, 0, none⟩ = some (.pointer (some ⟨R, 0, none⟩)) ∧ (W5.alloc (.cells #[.int .i64 x.kind, .int .i64 x.area, .slice a5 x.data.length c5] 50)).drew.cell? ⟨R, 7, none⟩ = some (.slice (some ⟨g, 0, none⟩) log.length lc) ∧ (W5.alloc (.cells #[.int .i64 x.kind, .int .i64 x.area, .slice a5 x.data.length c5] 50)).drew.cell? ⟨W5.heap.size, 0, none⟩ = some (.int .i64 x.kind) ∧ (W5.alloc (.cells #[.int .i64 x.kind, .int .i64 x.area, .slice a5 x.data.length c5] 50)).drew.cell? ⟨W5.heap.size, 1, none⟩ = some (.int .i64 x.area) ∧ (W5.alloc (.cells #[.int .i64 x.kind, .int .i64 x.area, .slice a5 x.data.length c5] 50)).drew.cell? ⟨W5.heap.size, 2, none⟩ = some (.slice a5 x.data.length c5) ∧ (W5.alloc (.cells #[.int .i64 x.kind, .int .i64 x.area, .slice a5 x.data.length c5] 50)).drew.cell? ⟨g, k * 3, none⟩ = some (.int .i64 x.kind) ∧ (W5.alloc (.cells #[.int .i64 x.kind, .int .i64 x.area, .slice a5 x.data.length c5] 50)).drew.cell? ⟨g, k * 3 + 1, none⟩ = some (.int .i64 x.area) ∧ (W5.alloc (.cells #[.int .i64 x.kind, .int .i64 x.area, .slice a5 x.data.length c5] 50)).drew.cell? ⟨g, k * 3 + 2, none⟩ = some (.slice ar' x.data.length cr') := ⟨n6, e2, e7, g0, g1, g2, i1, i2, i3⟩
            have hsw30 := sameWrite_yes x.kind x.area a5 ar' c5 cr' x.data _ own6.rd rdR
            unfold wrv at hsw30
            have HI6 := hide (And.intro hi6 (And.intro b5 b6))
            clear n6 e2 eS e7 g0 g1 g2 i1 i2 i3 rdR hi6 own6 own5 p4 n4 hwr4 hK4 hov w2' b6 b5
            refine region_in (S := (fun w' => w'.cell? ⟨w3.heap.size + 1, 0, none⟩ = some (.int .i64 (k : Int)) ∧ w'.cell? ⟨w.heap.size + 1, 0, none⟩ = some (.pointer (some ⟨R, 0, none⟩)) ∧ w'.cell? ⟨R, 7, none⟩ = some (.slice (some ⟨g, 0, none⟩) log.length lc) ∧ w'.cell? ⟨W5.heap.size, 0, none⟩ = some (.int .i64 x.kind) ∧ w'.cell? ⟨W5.heap.size, 1, none⟩ = some (.int .i64 x.area) ∧ w'.cell? ⟨W5.heap.size, 2, none⟩ = some (.slice a5 x.data.length c5) ∧ w'.cell? ⟨g, k * 3, none⟩ = some (.int .i64 x.kind) ∧ w'.cell? ⟨g, k * 3 + 1, none⟩ = some (.int .i64 x.area) ∧ w'.cell? ⟨g, k * 3 + 2, none⟩ = some (.slice ar' x.data.length cr'))) (by kernel_rfl) (by kernel_rfl) (fun _ _ h => h) (by exact hS30) (fun hHeld => ?_)
            try dsimp only at hHeld
            refine take_op (i := 0) (d := 174) (OP := Op.move (Operand.tmp 16)) (T := 29) (v := ?vq63x) rfl rfl rfl rfl (by kernel_rfl) (by kernel_rfl) (by kernel_rfl) (fun _ _ _ h => h) (by rfl) ?hq63x hHeld ?rq63x
            case hq63x => (intro w' hSw; (try dsimp only at hSw); go_simp <;> with_reducible rfl)
            try simp only [Act.put, List.setIfInBounds_toArray, List.set_cons_zero, List.set_cons_succ]
            refine take_op (i := 1) (d := 175) (OP := Op.binOp BinOp.neq 29 (Operand.tmp 174) (Operand.const (Value.int IntKind.i64 0)) 29) (T := 4) (v := ?vq64x) rfl rfl rfl rfl (by kernel_rfl) (by kernel_rfl) (by kernel_rfl) (fun _ _ _ h => h) (by rfl) ?hq64x hHeld ?rq64x
            case hq64x => (intro w' hSw; (try dsimp only at hSw); go_simp <;> with_reducible rfl)
            try simp only [Act.put, List.setIfInBounds_toArray, List.set_cons_zero, List.set_cons_succ]
            refine take_op (i := 2) (d := 176) (OP := Op.move (Operand.tmp 175)) (T := 4) (v := ?vq65x) rfl rfl rfl rfl (by kernel_rfl) (by kernel_rfl) (by kernel_rfl) (fun _ _ _ h => h) (by rfl) ?hq65x hHeld ?rq65x
            case hq65x => (intro w' hSw; (try dsimp only at hSw); go_simp <;> with_reducible rfl)
            try simp only [Act.put, List.setIfInBounds_toArray, List.set_cons_zero, List.set_cons_succ]
            refine take_op (i := 3) (d := 177) (OP := Op.load 50 (Operand.tmp 15)) (T := 50) (v := ?vq66x) rfl rfl rfl rfl (by kernel_rfl) (by kernel_rfl) (by kernel_rfl) (fun _ _ _ h => h) (by rfl) ?hq66x hHeld ?rq66x
            case hq66x => (intro w' hSw; (try dsimp only at hSw); go_simp <;> with_reducible rfl)
            try simp only [Act.put, List.setIfInBounds_toArray, List.set_cons_zero, List.set_cons_succ]
            refine take_op (i := 4) (d := 178) (OP := Op.load 32 (Operand.tmp 4)) (T := 32) (v := ?vq67x) rfl rfl rfl rfl (by kernel_rfl) (by kernel_rfl) (by kernel_rfl) (fun _ _ _ h => h) (by rfl) ?hq67x hHeld ?rq67x
            case hq67x => (intro w' hSw; (try dsimp only at hSw); go_simp <;> with_reducible rfl)
            try simp only [Act.put, List.setIfInBounds_toArray, List.set_cons_zero, List.set_cons_succ]
            refine take_op (i := 5) (d := 179) (OP := Op.nilCheck (Operand.tmp 178)) (T := 0) (v := ?vq68x) rfl rfl rfl rfl (by kernel_rfl) (by kernel_rfl) (by kernel_rfl) (fun _ _ _ h => h) (by rfl) ?hq68x hHeld ?rq68x
            case hq68x => (intro w' hSw; (try dsimp only at hSw); go_simp <;> with_reducible rfl)
            try simp only [Act.put, List.setIfInBounds_toArray, List.set_cons_zero, List.set_cons_succ]
            refine take_op (i := 6) (d := 180) (OP := Op.fieldAddr 70 (Operand.tmp 179) 5) (T := 0) (v := ?vq69x) rfl rfl rfl rfl (by kernel_rfl) (by kernel_rfl) (by kernel_rfl) (fun _ _ _ h => h) (by rfl) ?hq69x hHeld ?rq69x
            case hq69x => (intro w' hSw; (try dsimp only at hSw); go_simp <;> with_reducible rfl)
            try simp only [Act.put, List.setIfInBounds_toArray, List.set_cons_zero, List.set_cons_succ]
            refine take_op (i := 7) (d := 181) (OP := Op.load 58 (Operand.tmp 180)) (T := 58) (v := ?vq70x) rfl rfl rfl rfl (by kernel_rfl) (by kernel_rfl) (by kernel_rfl) (fun _ _ _ h => h) (by rfl) ?hq70x hHeld ?rq70x
            case hq70x => (intro w' hSw; (try dsimp only at hSw); go_simp <;> with_reducible rfl)
            try simp only [Act.put, List.setIfInBounds_toArray, List.set_cons_zero, List.set_cons_succ]
            refine take_op (i := 8) (d := 182) (OP := Op.load 3 (Operand.tmp 12)) (T := 3) (v := ?vq71x) rfl rfl rfl rfl (by kernel_rfl) (by kernel_rfl) (by kernel_rfl) (fun _ _ _ h => h) (by rfl) ?hq71x hHeld ?rq71x
            case hq71x => (intro w' hSw; (try dsimp only at hSw); go_simp <;> with_reducible rfl)
            try simp only [Act.put, List.setIfInBounds_toArray, List.set_cons_zero, List.set_cons_succ]
            refine take_op (i := 9) (d := 183) (OP := Op.indexAddr 58 (Operand.tmp 181) (Operand.tmp 182)) (T := 0) (v := ?vq72x) rfl rfl rfl rfl (by kernel_rfl) (by kernel_rfl) (by kernel_rfl) (fun _ _ _ h => h) (by rfl) ?hq72x hHeld ?rq72x
            case hq72x => (intro w' hSw; (try dsimp only at hSw); go_simp <;> with_reducible rfl)
            try simp only [Act.put, List.setIfInBounds_toArray, List.set_cons_zero, List.set_cons_succ]
            refine take_op (i := 10) (d := 184) (OP := Op.load 50 (Operand.tmp 183)) (T := 50) (v := ?vq73x) rfl rfl rfl rfl (by kernel_rfl) (by kernel_rfl) (by kernel_rfl) (fun _ _ _ h => h) (by rfl) ?hq73x hHeld ?rq73x
            case hq73x => (intro w' hSw; (try dsimp only at hSw); go_simp <;> with_reducible rfl)
            try simp only [Act.put, List.setIfInBounds_toArray, List.set_cons_zero, List.set_cons_succ]
            refine call_op (i := 11) (d := 185) (OP := Op.call { callee := Callee.value (Operand.func 31), args := #[Operand.tmp 177, Operand.tmp 184], argTypes := #[50, 50] }) (T := 4) (f := 31) (args := #[.agg #[.int .i64 x.kind, .int .i64 x.area, .slice a5 x.data.length c5], .agg #[.int .i64 x.kind, .int .i64 x.area, .slice ar' x.data.length cr']]) rfl rfl rfl rfl (by kernel_rfl) (by rfl) (by go_simp) ?_
            refine (hsw30).mono ?_
            rintro e W7 ⟨rfl, b7⟩
            have hS7 : W7.cell? ⟨w3.heap.size + 1, 0, none⟩ = some (.int .i64 (k : Int)) ∧ W7.cell? ⟨w.heap.size + 1, 0, none⟩ = some (.pointer (some ⟨R, 0, none⟩)) ∧ W7.cell? ⟨R, 7, none⟩ = some (.slice (some ⟨g, 0, none⟩) log.length lc) ∧ W7.cell? ⟨W5.heap.size, 0, none⟩ = some (.int .i64 x.kind) ∧ W7.cell? ⟨W5.heap.size, 1, none⟩ = some (.int .i64 x.area) ∧ W7.cell? ⟨W5.heap.size, 2, none⟩ = some (.slice a5 x.data.length c5) ∧ W7.cell? ⟨g, k * 3, none⟩ = some (.int .i64 x.kind) ∧ W7.cell? ⟨g, k * 3 + 1, none⟩ = some (.int .i64 x.area) ∧ W7.cell? ⟨g, k * 3 + 2, none⟩ = some (.slice ar' x.data.length cr') := ⟨(b7.cell (World.block_lt_of_cell? _ _ hHeld.1)).trans hHeld.1, (b7.cell (World.block_lt_of_cell? _ _ hHeld.2.1)).trans hHeld.2.1, (b7.cell (World.block_lt_of_cell? _ _ hHeld.2.2.1)).trans hHeld.2.2.1, (b7.cell (World.block_lt_of_cell? _ _ hHeld.2.2.2.1)).trans hHeld.2.2.2.1, (b7.cell (World.block_lt_of_cell? _ _ hHeld.2.2.2.2.1)).trans hHeld.2.2.2.2.1, (b7.cell (World.block_lt_of_cell? _ _ hHeld.2.2.2.2.2.1)).trans hHeld.2.2.2.2.2.1, (b7.cell (World.block_lt_of_cell? _ _ hHeld.2.2.2.2.2.2.1)).trans hHeld.2.2.2.2.2.2.1, (b7.cell (World.block_lt_of_cell? _ _ hHeld.2.2.2.2.2.2.2.1)).trans hHeld.2.2.2.2.2.2.2.1, (b7.cell (World.block_lt_of_cell? _ _ hHeld.2.2.2.2.2.2.2.2)).trans hHeld.2.2.2.2.2.2.2.2⟩
            refine ⟨_, rfl, hS7, ?_⟩
            replace hHeld := hS7
            try simp only [Act.put, List.setIfInBounds_toArray, List.set_cons_zero, List.set_cons_succ]
            refine take_op (i := 12) (d := 186) (OP := Op.unOp UnOp.not 4 (Operand.tmp 185)) (T := 4) (v := ?vq75x) rfl rfl rfl rfl (by kernel_rfl) (by kernel_rfl) (by kernel_rfl) (fun _ _ _ h => h) (by rfl) ?hq75x hHeld ?rq75x
            case hq75x => (intro w' hSw; (try dsimp only at hSw); go_simp <;> with_reducible rfl)
            try simp only [Act.put, List.setIfInBounds_toArray, List.set_cons_zero, List.set_cons_succ]
            refine take_op (i := 13) (d := 187) (OP := Op.pick (Operand.tmp 176) (Operand.const (Value.bool true)) (Operand.tmp 186)) (T := 4) (v := ?vq76x) rfl rfl rfl rfl (by kernel_rfl) (by kernel_rfl) (by kernel_rfl) (fun _ _ _ h => h) (by rfl) ?hq76x hHeld ?rq76x
            case hq76x => (intro w' hSw; (try dsimp only at hSw); go_simp <;> with_reducible rfl)
            try simp only [Act.put, List.setIfInBounds_toArray, List.set_cons_zero, List.set_cons_succ]
            refine wpAnyH_done (by kernel_rfl) ?_ _
            have b47 : Below W4.heap.size W4 W7 := (HI6.out.2.1.trans (HI6.out.2.2.mono HI6.out.2.1.size)).trans (b7.mono (Nat.le_trans HI6.out.2.1.size HI6.out.2.2.size))
            have hi7 := HI4.out.below b47
            obtain ⟨n7, z7⟩ := hi7.cell
            obtain ⟨_, _, e3, e4, _, _, _⟩ := HF1.out W7 hi7.1
            have hEnd := turn_end b23 hon hY b47 hi7
            have hne1 : ¬ (w.heap.size + 1 + 1 = w3.heap.size + 1) := by omega
            have hne2 : ¬ (w3.heap.size + 1 = w.heap.size + 1 + 1) := by omega
            have hne3 : ¬ (w.heap.size + 1 = w3.heap.size) := by omega
            have hne4 : ¬ (w3.heap.size = w.heap.size + 1) := by omega
            clear hHeld hS30 hS7 hsw30 b7
            gi_wp2
            exact hEnd

          case hdone =>
            intro W1 hJ hlsW1 hK1
            obtain ⟨k1, hk1, hi1⟩ := hJ
            obtain rfl : k1 = log.length := by
              rcases hk1 with h | ⟨h, _⟩
              · exact h
              · exact absurd h (by decide)
            obtain ⟨e1, e2, e3, e4, eS, eP, eB⟩ := HF1.out W1 hi1.1
            have e7 := eS.box
            have n7 := hi1.cell.1
            have hsW1 : w3.heap.size + 1 < W1.heap.size := hi1.size
            have hK01 : W1.heap[wA0.heap.size]? = some (.deferred (some [])) := (hi1.1.block _ (by omega)).trans ((bN.block _ hlt0).trans hK0')
            have HE := hide (And.intro eB (And.intro hK01 hK1))
            clear hI0 hlogA bA1 bN hTc eS eP hi1 eB hK01 hK1 hk1
            go_wp2
            go_quiet (fail)
            have hw4 : Below W1.heap.size W1 (W1.drewN nq) := below_drew W1 nq
            have h4w : (W1.drewN nq).cell? ⟨w3.heap.size, 0, none⟩ = some (.int .i64 1) := e4
            generalize W1.drewN nq = w4 at hw4 h4w ⊢
            have hsw4 := hw4.size
            obtain ⟨eB, hK01, hK1⟩ := HE.out
            have hb5 : Below W1.heap.size W1 (w4.alloc (.cells #[.int .i64 2] 3)) := hw4.alloc hsw4 _
            have eB5 := eB.trans (hb5.mono (by omega))
            have c4 := (stW_boxes w (.pointer (some ⟨D, 0, none⟩)) (.pointer (some ⟨R, 0, none⟩)) leave _ eB5).2.2.2
            have c5 : (w4.alloc (.cells #[.int .i64 2] 3)).cell? ⟨w.heap.size + 1 + 1 + 1, 0, none⟩ = some (.bool false) := by rw [cell_of_row _ _ 0 _ 4 (0, 0) c4]; rfl
            have c6 : (w4.alloc (.cells #[.int .i64 2] 3)).frozen? ⟨w.heap.size + 1 + 1 + 1, 0, none⟩ = false := frozen_of_row _ _ 0 _ 4 c4
            have hk0 := (hb5.block _ (by omega)).trans hK01
            have hk1' := (hb5.block _ (by omega)).trans hK1
            have HZ := hide (And.intro eB5 (And.intro c4 (And.intro hk0 hk1')))
            clear e1 e2 e3 e4 e7 n7 eB hK01 hK1 hb5 eB5 c4 hk0 hk1' HE
            go_wp2
            rw [rounds_succ]
            go_wp2
            obtain ⟨eB5, c4, hk0, hk1'⟩ := HZ.out
            generalize w4.alloc (.cells #[.int .i64 2] 3) = w5 at eB5 c4 hk0 hk1' ⊢
            have hset := Only.ofGrown (grown_setCell w5 ⟨w.heap.size + 1 + 1 + 1, 0, none⟩ (.bool true))
            have q1 : Below w.heap.size w w5 := hb4.out.trans (eB5.mono (by omega))
            have hs5 := q1.size
            have hx0 := (hset.block (w2.heap.size + 1 + 1) (Array.getElem?_eq_some_iff.1 (hsA0 ▸ hk0)).1 (by intro e; have e' : w.heap.size + 1 + 1 + 1 = w2.heap.size + 1 + 1 := (by injection e); omega)).trans (hsA0 ▸ hk0)
            have hx1 := (hset.block wA1.heap.size (Array.getElem?_eq_some_iff.1 hk1').1 (by intro e; have e' : w.heap.size + 1 + 1 + 1 = wA1.heap.size := (by injection e); omega)).trans hk1'
            have hcell : (w5.setCell ⟨w.heap.size + 1 + 1 + 1, 0, none⟩ (.bool true)).cell? ⟨w.heap.size + 1 + 1 + 1, 0, none⟩ = some (.bool true) := by rw [cell_of_row _ _ 0 _ 4 (0, 0) (heap_setCell_same _ _ _ _ 4 _ c4)]; rfl
            have hB6 : Below w.heap.size w (w5.setCell ⟨w.heap.size + 1 + 1 + 1, 0, none⟩ (.bool true)) := Below.only q1 hset hs5 (by intro j e; cases e; simp only; omega)
            have p1 := only_putObj (w5.setCell ⟨w.heap.size + 1 + 1 + 1, 0, none⟩ (.bool true)) wA1.heap.size (.deferred none)
            have hx0' := (p1.block (w2.heap.size + 1 + 1) (Array.getElem?_eq_some_iff.1 hx0).1 (by omega)).trans hx0
            have p2 := only_putObj ((w5.setCell ⟨w.heap.size + 1 + 1 + 1, 0, none⟩ (.bool true)).putObj wA1.heap.size (.deferred none)) (w2.heap.size + 1 + 1) (.deferred none)
            try rw [hsA0]
            exact leave_mark (fn := Try.f11) hx1 (leave_mark hx0' (leave_cell (w.heap.size + 1 + 1 + 1) (x := true) rfl rfl (p2.cell (p1.cell hcell (by simp only; omega)) (by simp only; omega)) ⟨rfl, Below.only (Below.only hB6 p1 hB6.size (by intro j e; omega)) p2 (by have := hB6.size; simpa using this) (by intro j e; omega)⟩))

        · have hlv : (k : Int) = leave := by
            rcases hk with h | ⟨_, h⟩
            · exact (hkl h).elim
            · exact h
          have hd1 : ((k : Int) == (log.length : Int)) = false := by simp; omega
          have hd2 : ((k : Int) == leave) = true := by simpa using hlv
          have hd3 : (k == log.length) = false := by simpa using hkl
          have hd4 : decide (k = log.length) = false := by simpa using hkl
          have hd5 : ((k : Int) != (log.length : Int)) = true := by simp; omega
          have hd6 : decide ((k : Int) = (log.length : Int)) = false := by simp; omega
          have hd7 : ((k : Int) != leave) = false := by simpa using hlv
          clear hlv hk
          go_wp2
          go_quiet (fail)
          have hw3 : Below W.heap.size W (W.drewN nq) := below_drew W nq
          have h4w : (W.drewN nq).cell? ⟨w2.heap.size, 0, none⟩ = some (.int .i64 0) := e4
          generalize W.drewN nq = w3 at hw3 h4w ⊢
          have hsw3 := hw3.size
          have hwww3 : Hid (Below w1.heap.size w1 w3) := hide (bW.out.trans (hw3.mono bW.out.size))
          have hK0' : w3.heap[wA0.heap.size]? = some (.deferred (some [])) := (hw3.block _ hlsW).trans hK0
          have hlt0 : wA0.heap.size < w3.heap.size := Nat.lt_of_lt_of_le hlsW hsw3
          clear e1 e2 e3 e4 e7 n7
          go_wp2
          rw [rounds_succ]
          go_wp2
          obtain ⟨wN1, hwN⟩ : ∃ wN, w3.alloc (.cells #[.int .i64 1] 3) = wN := ⟨_, rfl⟩
          have hsN1 : wN1.heap.size = w3.heap.size + 1 := by rw [← hwN]; simp
          have hTc : wN1.cell? ⟨w3.heap.size, 0, none⟩ = some (.int .i64 1) := by rw [← hwN, cell_of_row _ _ 0 _ 3 (0, 0) (heap_alloc_new w3 _)]; rfl
          have bN : Below w3.heap.size w3 wN1 := by rw [← hwN]; exact (Below.refl _ w3).alloc (Nat.le_refl _) _
          rw [hwN]
          clear hwN
          obtain ⟨wA1, hwA⟩ : ∃ wA1, wN1.alloc (.cells #[.int .i64 0] 3) = wA1 := ⟨_, rfl⟩
          have hsA1 : wA1.heap.size = w3.heap.size + 1 + 1 := by rw [← hwA]; simp [hsN1]
          have bA1 : Below wN1.heap.size wN1 wA1 := by rw [← hwA]; exact (Below.refl _ wN1).alloc (Nat.le_refl _) _
          have hI0 : TurnI wN1 (w3.heap.size + 1) 0 wA1 := ⟨by rw [← hsN1]; exact bA1, by rw [← hsN1, ← hwA]; exact heap_alloc_new wN1 _⟩
          rw [hwA]
          clear hwA
          have bw1N1 : Below w1.heap.size w1 wN1 := hwww3.out.trans (bN.mono (by omega))
          have HF1 : Hid (∀ W, Below (w3.heap.size + 1) wN1 W → W.cell? ⟨w.heap.size, 0, none⟩ = some (.pointer (some ⟨D, 0, none⟩)) ∧ W.cell? ⟨w.heap.size + 1, 0, none⟩ = some (.pointer (some ⟨R, 0, none⟩)) ∧ W.cell? ⟨w.heap.size + 1 + 1, 0, none⟩ = some (.int .i64 leave) ∧ W.cell? ⟨w3.heap.size, 0, none⟩ = some (.int .i64 1) ∧ Seen W R log lo lc ∧ PD Fd Gd W D cap beg log ∧ Below (w.heap.size + 4) (stW w (.pointer (some ⟨D, 0, none⟩)) (.pointer (some ⟨R, 0, none⟩)) leave) W) := hide (fun W hW => by
            have q1 : Below w1.heap.size w1 W := bw1N1.trans (hW.mono (by omega))
            have q2 := HB1.out.trans (q1.mono (by omega))
            obtain ⟨p1, p2, p3, _⟩ := stW_boxes w (.pointer (some ⟨D, 0, none⟩)) (.pointer (some ⟨R, 0, none⟩)) leave W q2
            exact ⟨p1, p2, p3, (hW.cell (by simp)).trans hTc, HN.out.2.1.below q1, HN.out.1.below q1, q2⟩)
          have hlogA : LogAt wA1 L lv Gd log ys := LogAt.below (W := w1) ⟨HL.out.1, HL.out.2.1, HL.out.2.2.1⟩ (bw1N1.trans (bA1.mono (by omega)))
          have hDb : ∀ j, j < w3.heap.size + 1 → ¬ TurnD (w3.heap.size + 1) j := fun j hj e => by unfold TurnD at e; omega
          refine range_break (Q := _) 5 L lv Gd log ys rfl rfl hlogA ?hlen (by omega) (TurnD (w3.heap.size + 1)) (hDb _ (by omega)) (by unfold TurnD; omega) (by unfold TurnD; omega) (fun j hj => hDb _ (by have := HN.out.2.2 j (HL.out.2.2.2 j hj); omega)) (fun j hj hg => hDb _ (by have := HG.out j hg; omega) hj) (fun j hg => by have := HG.out j hg; omega)
            (TurnI wN1 (w3.heap.size + 1)) (fun W => (1 : Nat) = 0 ∧ ∃ k : Nat, (k : Int) = leave ∧ TurnI wN1 (w3.heap.size + 1) k W) (fun W => ∃ k : Nat, (k = log.length ∨ ((1 : Nat) = 0 ∧ (k : Int) = leave)) ∧ TurnI wN1 (w3.heap.size + 1) k W)
            (fun k W W' hi ho => hi.only (by intro j e; omega) ho) (fun W W' hi ho => ⟨hi.1, hi.2.choose, hi.2.choose_spec.1, hi.2.choose_spec.2.only (by intro j e; omega) ho⟩) hI0 ?hround (fun _ _ h => h) (fun W h => ⟨_, .inl rfl, h⟩) (fun W h => ⟨_, .inr ⟨h.1, h.2.choose_spec.1⟩, h.2.choose_spec.2⟩) ?hdone
          case hlen => exact fun x hx => by have := (hfits.2 x hx).len; omega
          case hround =>
            intro k x ao c W0 W hx hi hbW0 hH hls
            have hkl : k < log.length := (List.getElem?_eq_some_iff.1 hx).1
            have hki : (k : Int) < (log.length : Int) := by omega
            have hdk : decide ((log.length : Int) ≤ (k : Int)) = false := by simp; omega
            have hdk2 : decide (log.length ≤ k) = false := by simp; omega
            have hsW := hbW0.size
            have hxl : x.data.length ≤ 140737488355328 := by have := (hfits.2 x (List.mem_of_getElem? hx)).len; omega
            have hbX : Below W.heap.size W (W.alloc (.cells #[.int .i64 x.kind, .int .i64 x.area, .slice ao x.data.length c] 50)) := (Below.refl _ W).alloc (Nat.le_refl _) _
            have hsX : (W.alloc (.cells #[.int .i64 x.kind, .int .i64 x.area, .slice ao x.data.length c] 50)).heap.size = W.heap.size + 1 := by simp
            have hiX := (hi.below hbW0).below hbX
            have hoX := hH.own.below hbX
            have hWc := heap_alloc_new W (.cells #[.int .i64 x.kind, .int .i64 x.area, .slice ao x.data.length c] 50)
            clear hI0 hlogA bA1 bN hTc
            gi_wp2
            refine ⟨(Only.refl _ W).alloc _, fun W2 ho2 => ?_⟩
            have hs2 := ho2.size
            have hi2 : TurnI wN1 (w3.heap.size + 1) k W2 := hiX.only (by intro j e; omega) ho2
            have own2 : Own 5 W2 W0.heap.size (.slice ao x.data.length c) x.data := ho2.own hoX (fun j hj e => by have := (own_new hoX j hj).1; omega)
            obtain ⟨g0, g1, g2, _⟩ := blk3 ((ho2.block W.heap.size (by omega) (by omega)).trans hWc)
            obtain ⟨e1, e2, e3, e4, eS, eP, _⟩ := HF1.out W2 hi2.1
            obtain ⟨g, ar, cr, hlo, i1, i2, i3, rdR⟩ := eS.item k x hx
            have e7 := eS.box
            rw [hlo] at e7
            have n0 := hi2.cell.1
            have hS26 : W2.drew.cell? ⟨w3.heap.size + 1, 0, none⟩ = some (.int .i64 (k : Int)) ∧ W2.drew.cell? ⟨w.heap.size + 1, 0, none⟩ = some (.pointer (some ⟨R, 0, none⟩)) ∧ W2.drew.cell? ⟨R, 7, none⟩ = some (.slice (some ⟨g, 0, none⟩) log.length lc) ∧ W2.drew.cell? ⟨W.heap.size, 0, none⟩ = some (.int .i64 x.kind) ∧ W2.drew.cell? ⟨W.heap.size, 1, none⟩ = some (.int .i64 x.area) ∧ W2.drew.cell? ⟨W.heap.size, 2, none⟩ = some (.slice ao x.data.length c) ∧ W2.drew.cell? ⟨g, k * 3, none⟩ = some (.int .i64 x.kind) ∧ W2.drew.cell? ⟨g, k * 3 + 1, none⟩ = some (.int .i64 x.area) ∧ W2.drew.cell? ⟨g, k * 3 + 2, none⟩ = some (.slice ar x.data.length cr) := ⟨n0, e2, e7, g0, g1, g2, i1, i2, i3⟩
            have hsw26 := sameWrite_yes x.kind x.area ao ar c cr x.data W2.drew own2.rd rdR
            unfold wrv at hsw26
            have HI2 := hide (And.intro hi2 own2)
            clear n0 e1 e2 e3 e4 eS eP e7 g0 g1 g2 i1 i2 i3 rdR hi hiX hoX hWc hH hbW0 hbX ho2 own2 hi2
            gi_wp2
            refine region_in (S := (fun w' => w'.cell? ⟨w3.heap.size + 1, 0, none⟩ = some (.int .i64 (k : Int)) ∧ w'.cell? ⟨w.heap.size + 1, 0, none⟩ = some (.pointer (some ⟨R, 0, none⟩)) ∧ w'.cell? ⟨R, 7, none⟩ = some (.slice (some ⟨g, 0, none⟩) log.length lc) ∧ w'.cell? ⟨W.heap.size, 0, none⟩ = some (.int .i64 x.kind) ∧ w'.cell? ⟨W.heap.size, 1, none⟩ = some (.int .i64 x.area) ∧ w'.cell? ⟨W.heap.size, 2, none⟩ = some (.slice ao x.data.length c) ∧ w'.cell? ⟨g, k * 3, none⟩ = some (.int .i64 x.kind) ∧ w'.cell? ⟨g, k * 3 + 1, none⟩ = some (.int .i64 x.area) ∧ w'.cell? ⟨g, k * 3 + 2, none⟩ = some (.slice ar x.data.length cr))) (by kernel_rfl) (by kernel_rfl) (fun _ _ h => h) (by exact hS26) (fun hHeld => ?_)
            try dsimp only at hHeld
            refine take_op (i := 0) (d := 141) (OP := Op.load 3 (Operand.tmp 12)) (T := 3) (v := ?vq77x) rfl rfl rfl rfl (by kernel_rfl) (by kernel_rfl) (by kernel_rfl) (fun _ _ _ h => h) (by rfl) ?hq77x hHeld ?rq77x
            case hq77x => (intro w' hSw; (try dsimp only at hSw); go_simp <;> with_reducible rfl)
            try simp only [Act.put, List.setIfInBounds_toArray, List.set_cons_zero, List.set_cons_succ]
            refine take_op (i := 1) (d := 142) (OP := Op.load 32 (Operand.tmp 4)) (T := 32) (v := ?vq78x) rfl rfl rfl rfl (by kernel_rfl) (by kernel_rfl) (by kernel_rfl) (fun _ _ _ h => h) (by rfl) ?hq78x hHeld ?rq78x
            case hq78x => (intro w' hSw; (try dsimp only at hSw); go_simp <;> with_reducible rfl)
            try simp only [Act.put, List.setIfInBounds_toArray, List.set_cons_zero, List.set_cons_succ]
            refine take_op (i := 2) (d := 143) (OP := Op.nilCheck (Operand.tmp 142)) (T := 0) (v := ?vq79x) rfl rfl rfl rfl (by kernel_rfl) (by kernel_rfl) (by kernel_rfl) (fun _ _ _ h => h) (by rfl) ?hq79x hHeld ?rq79x
            case hq79x => (intro w' hSw; (try dsimp only at hSw); go_simp <;> with_reducible rfl)
            try simp only [Act.put, List.setIfInBounds_toArray, List.set_cons_zero, List.set_cons_succ]
            refine take_op (i := 3) (d := 144) (OP := Op.fieldAddr 70 (Operand.tmp 143) 5) (T := 0) (v := ?vq80x) rfl rfl rfl rfl (by kernel_rfl) (by kernel_rfl) (by kernel_rfl) (fun _ _ _ h => h) (by rfl) ?hq80x hHeld ?rq80x
            case hq80x => (intro w' hSw; (try dsimp only at hSw); go_simp <;> with_reducible rfl)
            try simp only [Act.put, List.setIfInBounds_toArray, List.set_cons_zero, List.set_cons_succ]
            refine take_op (i := 4) (d := 145) (OP := Op.load 58 (Operand.tmp 144)) (T := 58) (v := ?vq81x) rfl rfl rfl rfl (by kernel_rfl) (by kernel_rfl) (by kernel_rfl) (fun _ _ _ h => h) (by rfl) ?hq81x hHeld ?rq81x
            case hq81x => (intro w' hSw; (try dsimp only at hSw); go_simp <;> with_reducible rfl)
            try simp only [Act.put, List.setIfInBounds_toArray, List.set_cons_zero, List.set_cons_succ]
            refine take_op (i := 5) (d := 146) (OP := Op.call { callee := Callee.builtin Builtin.len, args := #[Operand.tmp 145], argTypes := #[58] }) (T := 3) (v := ?vq82x) rfl rfl rfl rfl (by kernel_rfl) (by kernel_rfl) (by kernel_rfl) (fun _ _ _ h => h) (by rfl) ?hq82x hHeld ?rq82x
            case hq82x => (intro w' hSw; (try dsimp only at hSw); go_simp <;> with_reducible rfl)
            try simp only [Act.put, List.setIfInBounds_toArray, List.set_cons_zero, List.set_cons_succ]
            refine take_op (i := 6) (d := 147) (OP := Op.binOp BinOp.geq 3 (Operand.tmp 141) (Operand.tmp 146) 3) (T := 4) (v := ?vq83x) rfl rfl rfl rfl (by kernel_rfl) (by kernel_rfl) (by kernel_rfl) (fun _ _ _ h => h) (by rfl) ?hq83x hHeld ?rq83x
            case hq83x => (intro w' hSw; (try dsimp only at hSw); go_simp <;> with_reducible rfl)
            try simp only [Act.put, List.setIfInBounds_toArray, List.set_cons_zero, List.set_cons_succ]
            refine take_op (i := 7) (d := 148) (OP := Op.move (Operand.tmp 147)) (T := 4) (v := ?vq84x) rfl rfl rfl rfl (by kernel_rfl) (by kernel_rfl) (by kernel_rfl) (fun _ _ _ h => h) (by rfl) ?hq84x hHeld ?rq84x
            case hq84x => (intro w' hSw; (try dsimp only at hSw); go_simp <;> with_reducible rfl)
            try simp only [Act.put, List.setIfInBounds_toArray, List.set_cons_zero, List.set_cons_succ]
            refine take_op (i := 8) (d := 149) (OP := Op.move (Operand.tmp 13)) (T := 3) (v := ?vq85x) rfl rfl rfl rfl (by kernel_rfl) (by kernel_rfl) (by kernel_rfl) (fun _ _ _ h => h) (by rfl) ?hq85x hHeld ?rq85x
            case hq85x => (intro w' hSw; (try dsimp only at hSw); go_simp <;> with_reducible rfl)
            try simp only [Act.put, List.setIfInBounds_toArray, List.set_cons_zero, List.set_cons_succ]
            refine take_op (i := 9) (d := 150) (OP := Op.load 3 (Operand.tmp 12)) (T := 3) (v := ?vq86x) rfl rfl rfl rfl (by kernel_rfl) (by kernel_rfl) (by kernel_rfl) (fun _ _ _ h => h) (by rfl) ?hq86x hHeld ?rq86x
            case hq86x => (intro w' hSw; (try dsimp only at hSw); go_simp <;> with_reducible rfl)
            try simp only [Act.put, List.setIfInBounds_toArray, List.set_cons_zero, List.set_cons_succ]
            refine take_op (i := 10) (d := 151) (OP := Op.binOp BinOp.neq 3 (Operand.tmp 149) (Operand.tmp 150) 3) (T := 4) (v := ?vq87x) rfl rfl rfl rfl (by kernel_rfl) (by kernel_rfl) (by kernel_rfl) (fun _ _ _ h => h) (by rfl) ?hq87x hHeld ?rq87x
            case hq87x => (intro w' hSw; (try dsimp only at hSw); go_simp <;> with_reducible rfl)
            try simp only [Act.put, List.setIfInBounds_toArray, List.set_cons_zero, List.set_cons_succ]
            refine take_op (i := 11) (d := 152) (OP := Op.pick (Operand.tmp 148) (Operand.const (Value.bool true)) (Operand.tmp 151)) (T := 4) (v := ?vq88x) rfl rfl rfl rfl (by kernel_rfl) (by kernel_rfl) (by kernel_rfl) (fun _ _ _ h => h) (by rfl) ?hq88x hHeld ?rq88x
            case hq88x => (intro w' hSw; (try dsimp only at hSw); go_simp <;> with_reducible rfl)
            try simp only [Act.put, List.setIfInBounds_toArray, List.set_cons_zero, List.set_cons_succ]
            refine take_op (i := 12) (d := 153) (OP := Op.move (Operand.tmp 152)) (T := 4) (v := ?vq89x) rfl rfl rfl rfl (by kernel_rfl) (by kernel_rfl) (by kernel_rfl) (fun _ _ _ h => h) (by rfl) ?hq89x hHeld ?rq89x
            case hq89x => (intro w' hSw; (try dsimp only at hSw); go_simp <;> with_reducible rfl)
            try simp only [Act.put, List.setIfInBounds_toArray, List.set_cons_zero, List.set_cons_succ]
            refine take_op (i := 13) (d := 154) (OP := Op.load 50 (Operand.tmp 14)) (T := 50) (v := ?vq90x) rfl rfl rfl rfl (by kernel_rfl) (by kernel_rfl) (by kernel_rfl) (fun _ _ _ h => h) (by rfl) ?hq90x hHeld ?rq90x
            case hq90x => (intro w' hSw; (try dsimp only at hSw); go_simp <;> with_reducible rfl)
            try simp only [Act.put, List.setIfInBounds_toArray, List.set_cons_zero, List.set_cons_succ]
            refine take_op (i := 14) (d := 155) (OP := Op.load 32 (Operand.tmp 4)) (T := 32) (v := ?vq91x) rfl rfl rfl rfl (by kernel_rfl) (by kernel_rfl) (by kernel_rfl) (fun _ _ _ h => h) (by rfl) ?hq91x hHeld ?rq91x
            case hq91x => (intro w' hSw; (try dsimp only at hSw); go_simp <;> with_reducible rfl)
            try simp only [Act.put, List.setIfInBounds_toArray, List.set_cons_zero, List.set_cons_succ]
            refine take_op (i := 15) (d := 156) (OP := Op.nilCheck (Operand.tmp 155)) (T := 0) (v := ?vq92x) rfl rfl rfl rfl (by kernel_rfl) (by kernel_rfl) (by kernel_rfl) (fun _ _ _ h => h) (by rfl) ?hq92x hHeld ?rq92x
            case hq92x => (intro w' hSw; (try dsimp only at hSw); go_simp <;> with_reducible rfl)
            try simp only [Act.put, List.setIfInBounds_toArray, List.set_cons_zero, List.set_cons_succ]
            refine take_op (i := 16) (d := 157) (OP := Op.fieldAddr 70 (Operand.tmp 156) 5) (T := 0) (v := ?vq93x) rfl rfl rfl rfl (by kernel_rfl) (by kernel_rfl) (by kernel_rfl) (fun _ _ _ h => h) (by rfl) ?hq93x hHeld ?rq93x
            case hq93x => (intro w' hSw; (try dsimp only at hSw); go_simp <;> with_reducible rfl)
            try simp only [Act.put, List.setIfInBounds_toArray, List.set_cons_zero, List.set_cons_succ]
            refine take_op (i := 17) (d := 158) (OP := Op.load 58 (Operand.tmp 157)) (T := 58) (v := ?vq94x) rfl rfl rfl rfl (by kernel_rfl) (by kernel_rfl) (by kernel_rfl) (fun _ _ _ h => h) (by rfl) ?hq94x hHeld ?rq94x
            case hq94x => (intro w' hSw; (try dsimp only at hSw); go_simp <;> with_reducible rfl)
            try simp only [Act.put, List.setIfInBounds_toArray, List.set_cons_zero, List.set_cons_succ]
            refine take_op (i := 18) (d := 159) (OP := Op.load 3 (Operand.tmp 12)) (T := 3) (v := ?vq95x) rfl rfl rfl rfl (by kernel_rfl) (by kernel_rfl) (by kernel_rfl) (fun _ _ _ h => h) (by rfl) ?hq95x hHeld ?rq95x
            case hq95x => (intro w' hSw; (try dsimp only at hSw); go_simp <;> with_reducible rfl)
            try simp only [Act.put, List.setIfInBounds_toArray, List.set_cons_zero, List.set_cons_succ]
            refine take_op (i := 19) (d := 160) (OP := Op.indexAddr 58 (Operand.tmp 158) (Operand.tmp 159)) (T := 0) (v := ?vq96x) rfl rfl rfl rfl (by kernel_rfl) (by kernel_rfl) (by kernel_rfl) (fun _ _ _ h => h) (by rfl) ?hq96x hHeld ?rq96x
            case hq96x => (intro w' hSw; (try dsimp only at hSw); go_simp <;> with_reducible rfl)
            try simp only [Act.put, List.setIfInBounds_toArray, List.set_cons_zero, List.set_cons_succ]
            refine take_op (i := 20) (d := 161) (OP := Op.load 50 (Operand.tmp 160)) (T := 50) (v := ?vq97x) rfl rfl rfl rfl (by kernel_rfl) (by kernel_rfl) (by kernel_rfl) (fun _ _ _ h => h) (by rfl) ?hq97x hHeld ?rq97x
            case hq97x => (intro w' hSw; (try dsimp only at hSw); go_simp <;> with_reducible rfl)
            try simp only [Act.put, List.setIfInBounds_toArray, List.set_cons_zero, List.set_cons_succ]
            refine call_op (i := 21) (d := 162) (OP := Op.call { callee := Callee.value (Operand.func 31), args := #[Operand.tmp 154, Operand.tmp 161], argTypes := #[50, 50] }) (T := 4) (f := 31) (args := #[.agg #[.int .i64 x.kind, .int .i64 x.area, .slice ao x.data.length c], .agg #[.int .i64 x.kind, .int .i64 x.area, .slice ar x.data.length cr]]) rfl rfl rfl rfl (by kernel_rfl) (by rfl) (by go_simp) ?_
            refine (hsw26).mono ?_
            rintro e W3 ⟨rfl, b3⟩
            have hS3 : W3.cell? ⟨w3.heap.size + 1, 0, none⟩ = some (.int .i64 (k : Int)) ∧ W3.cell? ⟨w.heap.size + 1, 0, none⟩ = some (.pointer (some ⟨R, 0, none⟩)) ∧ W3.cell? ⟨R, 7, none⟩ = some (.slice (some ⟨g, 0, none⟩) log.length lc) ∧ W3.cell? ⟨W.heap.size, 0, none⟩ = some (.int .i64 x.kind) ∧ W3.cell? ⟨W.heap.size, 1, none⟩ = some (.int .i64 x.area) ∧ W3.cell? ⟨W.heap.size, 2, none⟩ = some (.slice ao x.data.length c) ∧ W3.cell? ⟨g, k * 3, none⟩ = some (.int .i64 x.kind) ∧ W3.cell? ⟨g, k * 3 + 1, none⟩ = some (.int .i64 x.area) ∧ W3.cell? ⟨g, k * 3 + 2, none⟩ = some (.slice ar x.data.length cr) := ⟨(b3.cell (World.block_lt_of_cell? _ _ hHeld.1)).trans hHeld.1, (b3.cell (World.block_lt_of_cell? _ _ hHeld.2.1)).trans hHeld.2.1, (b3.cell (World.block_lt_of_cell? _ _ hHeld.2.2.1)).trans hHeld.2.2.1, (b3.cell (World.block_lt_of_cell? _ _ hHeld.2.2.2.1)).trans hHeld.2.2.2.1, (b3.cell (World.block_lt_of_cell? _ _ hHeld.2.2.2.2.1)).trans hHeld.2.2.2.2.1, (b3.cell (World.block_lt_of_cell? _ _ hHeld.2.2.2.2.2.1)).trans hHeld.2.2.2.2.2.1, (b3.cell (World.block_lt_of_cell? _ _ hHeld.2.2.2.2.2.2.1)).trans hHeld.2.2.2.2.2.2.1, (b3.cell (World.block_lt_of_cell? _ _ hHeld.2.2.2.2.2.2.2.1)).trans hHeld.2.2.2.2.2.2.2.1, (b3.cell (World.block_lt_of_cell? _ _ hHeld.2.2.2.2.2.2.2.2)).trans hHeld.2.2.2.2.2.2.2.2⟩
            refine ⟨_, rfl, hS3, ?_⟩
            replace hHeld := hS3
            try simp only [Act.put, List.setIfInBounds_toArray, List.set_cons_zero, List.set_cons_succ]
            refine take_op (i := 22) (d := 163) (OP := Op.unOp UnOp.not 4 (Operand.tmp 162)) (T := 4) (v := ?vq99x) rfl rfl rfl rfl (by kernel_rfl) (by kernel_rfl) (by kernel_rfl) (fun _ _ _ h => h) (by rfl) ?hq99x hHeld ?rq99x
            case hq99x => (intro w' hSw; (try dsimp only at hSw); go_simp <;> with_reducible rfl)
            try simp only [Act.put, List.setIfInBounds_toArray, List.set_cons_zero, List.set_cons_succ]
            refine take_op (i := 23) (d := 164) (OP := Op.pick (Operand.tmp 153) (Operand.const (Value.bool true)) (Operand.tmp 163)) (T := 4) (v := ?vq100x) rfl rfl rfl rfl (by kernel_rfl) (by kernel_rfl) (by kernel_rfl) (fun _ _ _ h => h) (by rfl) ?hq100x hHeld ?rq100x
            case hq100x => (intro w' hSw; (try dsimp only at hSw); go_simp <;> with_reducible rfl)
            try simp only [Act.put, List.setIfInBounds_toArray, List.set_cons_zero, List.set_cons_succ]
            refine wpAnyH_done (by kernel_rfl) ?_ _
            have b23 : Below W2.heap.size W2 W3 := below_undrew0 b3
            have hi3 := HI2.out.1.below b23
            have own3 := HI2.out.2.below b23
            have hY : ∀ j, Value.ownBlock (.slice ao x.data.length c) = some j → w3.heap.size + 1 + 3 ≤ j := fun j hj => by have := (own_new HI2.out.2 j hj).1; omega
            have hov := over_any ao c W0.heap.size x.data W3 own3 hxl
            have w2' := hS3.2.2.2.2.2.1
            have hK4 : ∀ W4, Only (fun j => Value.ownBlock (.slice ao x.data.length c) = some j) W3 W4 → Hid (TurnI wN1 (w3.heap.size + 1) k W4) ∧ W4.cell? ⟨w.heap.size, 0, none⟩ = some (.pointer (some ⟨D, 0, none⟩)) ∧ W4.cell? ⟨w3.heap.size + 1, 0, none⟩ = some (.int .i64 (k : Int)) ∧ Calls Try.prog 20 #[.pointer (some ⟨D, 0, none⟩), .int .i64 k] W4 (fun e w' => ∃ ao c, e = .returned (.tuple #[.agg #[.int .i64 x.kind, .int .i64 x.area, .slice ao x.data.length c], .int .i64 0]) ∧ Own 5 w' W4.heap.size (.slice ao x.data.length c) x.data ∧ (ao = none → c = 0) ∧ Below W4.heap.size W4 w') := fun W4 hon => by
              have h4 : TurnI wN1 (w3.heap.size + 1) k W4 := hi3.only (fun j hj => by have := hY j hj; omega) hon
              obtain ⟨e1, _, _, _, _, eP, _⟩ := HF1.out W4 h4.1
              exact ⟨hide h4, e1, h4.cell.1, write_yes eP k x hx hxl⟩
            clear hHeld hS26 hS3 hsw26 hi3 own3
            gi_wp2_with (first
              | (refine ⟨trivial, ?_⟩; gi_at_call 29; refine (CallsIn.inRound _ (callsIn_wide.2 hov)).mono ?_; rintro e W4 ⟨⟨v, rfl⟩, hon⟩; obtain ⟨HI4, p4, n4, hwr4⟩ := hK4 W4 hon)
              | (refine ⟨trivial, ?_⟩; gi_at_call 20; refine (CallsIn.inRound _ (callsIn_wide.2 hwr4)).mono ?_; rintro e W5 ⟨a5, c5, rfl, own5, _, b5⟩))
            have b6 : Below W5.heap.size W5 (W5.alloc (.cells #[.int .i64 x.kind, .int .i64 x.area, .slice a5 x.data.length c5] 50)).drew := ((Below.refl _ W5).alloc (Nat.le_refl _) _).drew
            have hi6 := (HI4.out.below b5).below b6
            obtain ⟨g0, g1, g2, _⟩ := blk3 (w := (W5.alloc (.cells #[.int .i64 x.kind, .int .i64 x.area, .slice a5 x.data.length c5] 50)).drew) (R := W5.heap.size) (heap_alloc_new W5 _)
            obtain ⟨_, e2, _, _, eS, _, _⟩ := HF1.out _ hi6.1
            obtain ⟨g', ar', cr', hlo', i1, i2, i3, rdR⟩ := eS.item k x hx
            have e7 := eS.box
            rw [hlo] at hlo'
            cases hlo'
            rw [hlo] at e7
            have n6 := hi6.cell.1
            have own6 := own5.below b6
            have hS30 : (W5.alloc (.cells #[.int .i64 x.kind, .int .i64 x.area, .slice a5 x.data.length c5] 50)).drew.cell? ⟨w3.heap.size + 1, 0, none⟩ = some (.int .i64 (k : Int)) ∧ (W5.alloc (.cells #[.int .i64 x.kind, .int .i64 x.area, .slice a5 x.data.length c5] 50)).drew.cell? ⟨w.heap.size + 1, 0, none⟩ = some (.pointer (some ⟨R, 0, none⟩)) ∧ (W5.alloc (.cells #[.int .i64 x.kind, .int .i64 x.area, .slice a5 x.data.length c5] 50)).drew.cell? ⟨R, 7, none⟩ = some (.slice (some ⟨g, 0, none⟩) log.length lc) ∧ (W5.alloc (.cells #[.int .i64 x.kind, .int .i64 x.area, .slice a5 x.data.length c5] 50)).drew.cell? ⟨W5.heap.size, 0, none⟩ = some (.int .i64 x.kind) ∧ (W5.alloc (.cells #[.int .i64 x.kind, .int .i64 x.area, .slice a5 x.data.length c5] 50)).drew.cell? ⟨W5.heap.size, 1, none⟩ = some (.int .i64 x.area) ∧ (W5.alloc (.cells #[.int .i64 x.kind, .int .i64 x.area, .slice a5 x.data.length c5] 50)).drew.cell? ⟨W5.heap.size, 2, none⟩ = some (.slice a5 x.data.length c5) ∧ (W5.alloc (.cells #[.int .i64 x.kind, .int .i64 x.area, .slice a5 x.data.length c5] 50)).drew.cell? ⟨g, k * 3, none⟩ = some (.int .i64 x.kind) ∧ (W5.alloc (.cells #[.int .i64 x.kind, .int .i64 x.area, .slice a5 x.data.length c5] 50)).drew.cell? ⟨g, k * 3 + 1, none⟩ = some (.int .i64 x.area) ∧ (W5.alloc (.cells #[.int .i64 x.kind, .int .i64 x.area, .slice a5 x.data.length c5] 50)).drew.cell? ⟨g, k * 3 + 2, none⟩ = some (.slice ar' x.data.length cr') := ⟨n6, e2, e7, g0, g1, g2, i1, i2, i3⟩
            have hsw30 := sameWrite_yes x.kind x.area a5 ar' c5 cr' x.data _ own6.rd rdR
            unfold wrv at hsw30
            have HI6 := hide (And.intro hi6 (And.intro b5 b6))
            clear n6 e2 eS e7 g0 g1 g2 i1 i2 i3 rdR hi6 own6 own5 p4 n4 hwr4 hK4 hov w2' b6 b5
            refine region_in (S := (fun w' => w'.cell? ⟨w3.heap.size + 1, 0, none⟩ = some (.int .i64 (k : Int)) ∧ w'.cell? ⟨w.heap.size + 1, 0, none⟩ = some (.pointer (some ⟨R, 0, none⟩)) ∧ w'.cell? ⟨R, 7, none⟩ = some (.slice (some ⟨g, 0, none⟩) log.length lc) ∧ w'.cell? ⟨W5.heap.size, 0, none⟩ = some (.int .i64 x.kind) ∧ w'.cell? ⟨W5.heap.size, 1, none⟩ = some (.int .i64 x.area) ∧ w'.cell? ⟨W5.heap.size, 2, none⟩ = some (.slice a5 x.data.length c5) ∧ w'.cell? ⟨g, k * 3, none⟩ = some (.int .i64 x.kind) ∧ w'.cell? ⟨g, k * 3 + 1, none⟩ = some (.int .i64 x.area) ∧ w'.cell? ⟨g, k * 3 + 2, none⟩ = some (.slice ar' x.data.length cr'))) (by kernel_rfl) (by kernel_rfl) (fun _ _ h => h) (by exact hS30) (fun hHeld => ?_)
            try dsimp only at hHeld
            refine take_op (i := 0) (d := 174) (OP := Op.move (Operand.tmp 16)) (T := 29) (v := ?vq101x) rfl rfl rfl rfl (by kernel_rfl) (by kernel_rfl) (by kernel_rfl) (fun _ _ _ h => h) (by rfl) ?hq101x hHeld ?rq101x
            case hq101x => (intro w' hSw; (try dsimp only at hSw); go_simp <;> with_reducible rfl)
            try simp only [Act.put, List.setIfInBounds_toArray, List.set_cons_zero, List.set_cons_succ]
            refine take_op (i := 1) (d := 175) (OP := Op.binOp BinOp.neq 29 (Operand.tmp 174) (Operand.const (Value.int IntKind.i64 0)) 29) (T := 4) (v := ?vq102x) rfl rfl rfl rfl (by kernel_rfl) (by kernel_rfl) (by kernel_rfl) (fun _ _ _ h => h) (by rfl) ?hq102x hHeld ?rq102x
            case hq102x => (intro w' hSw; (try dsimp only at hSw); go_simp <;> with_reducible rfl)
            try simp only [Act.put, List.setIfInBounds_toArray, List.set_cons_zero, List.set_cons_succ]
            refine take_op (i := 2) (d := 176) (OP := Op.move (Operand.tmp 175)) (T := 4) (v := ?vq103x) rfl rfl rfl rfl (by kernel_rfl) (by kernel_rfl) (by kernel_rfl) (fun _ _ _ h => h) (by rfl) ?hq103x hHeld ?rq103x
            case hq103x => (intro w' hSw; (try dsimp only at hSw); go_simp <;> with_reducible rfl)
            try simp only [Act.put, List.setIfInBounds_toArray, List.set_cons_zero, List.set_cons_succ]
            refine take_op (i := 3) (d := 177) (OP := Op.load 50 (Operand.tmp 15)) (T := 50) (v := ?vq104x) rfl rfl rfl rfl (by kernel_rfl) (by kernel_rfl) (by kernel_rfl) (fun _ _ _ h => h) (by rfl) ?hq104x hHeld ?rq104x
            case hq104x => (intro w' hSw; (try dsimp only at hSw); go_simp <;> with_reducible rfl)
            try simp only [Act.put, List.setIfInBounds_toArray, List.set_cons_zero, List.set_cons_succ]
            refine take_op (i := 4) (d := 178) (OP := Op.load 32 (Operand.tmp 4)) (T := 32) (v := ?vq105x) rfl rfl rfl rfl (by kernel_rfl) (by kernel_rfl) (by kernel_rfl) (fun _ _ _ h => h) (by rfl) ?hq105x hHeld ?rq105x
            case hq105x => (intro w' hSw; (try dsimp only at hSw); go_simp <;> with_reducible rfl)
            try simp only [Act.put, List.setIfInBounds_toArray, List.set_cons_zero, List.set_cons_succ]
            refine take_op (i := 5) (d := 179) (OP := Op.nilCheck (Operand.tmp 178)) (T := 0) (v := ?vq106x) rfl rfl rfl rfl (by kernel_rfl) (by kernel_rfl) (by kernel_rfl) (fun _ _ _ h => h) (by rfl) ?hq106x hHeld ?rq106x
            case hq106x => (intro w' hSw; (try dsimp only at hSw); go_simp <;> with_reducible rfl)
            try simp only [Act.put, List.setIfInBounds_toArray, List.set_cons_zero, List.set_cons_succ]
            refine take_op (i := 6) (d := 180) (OP := Op.fieldAddr 70 (Operand.tmp 179) 5) (T := 0) (v := ?vq107x) rfl rfl rfl rfl (by kernel_rfl) (by kernel_rfl) (by kernel_rfl) (fun _ _ _ h => h) (by rfl) ?hq107x hHeld ?rq107x
            case hq107x => (intro w' hSw; (try dsimp only at hSw); go_simp <;> with_reducible rfl)
            try simp only [Act.put, List.setIfInBounds_toArray, List.set_cons_zero, List.set_cons_succ]
            refine take_op (i := 7) (d := 181) (OP := Op.load 58 (Operand.tmp 180)) (T := 58) (v := ?vq108x) rfl rfl rfl rfl (by kernel_rfl) (by kernel_rfl) (by kernel_rfl) (fun _ _ _ h => h) (by rfl) ?hq108x hHeld ?rq108x
            case hq108x => (intro w' hSw; (try dsimp only at hSw); go_simp <;> with_reducible rfl)
            try simp only [Act.put, List.setIfInBounds_toArray, List.set_cons_zero, List.set_cons_succ]
            refine take_op (i := 8) (d := 182) (OP := Op.load 3 (Operand.tmp 12)) (T := 3) (v := ?vq109x) rfl rfl rfl rfl (by kernel_rfl) (by kernel_rfl) (by kernel_rfl) (fun _ _ _ h => h) (by rfl) ?hq109x hHeld ?rq109x
            case hq109x => (intro w' hSw; (try dsimp only at hSw); go_simp <;> with_reducible rfl)
            try simp only [Act.put, List.setIfInBounds_toArray, List.set_cons_zero, List.set_cons_succ]
            refine take_op (i := 9) (d := 183) (OP := Op.indexAddr 58 (Operand.tmp 181) (Operand.tmp 182)) (T := 0) (v := ?vq110x) rfl rfl rfl rfl (by kernel_rfl) (by kernel_rfl) (by kernel_rfl) (fun _ _ _ h => h) (by rfl) ?hq110x hHeld ?rq110x
            case hq110x => (intro w' hSw; (try dsimp only at hSw); go_simp <;> with_reducible rfl)
            try simp only [Act.put, List.setIfInBounds_toArray, List.set_cons_zero, List.set_cons_succ]
            refine take_op (i := 10) (d := 184) (OP := Op.load 50 (Operand.tmp 183)) (T := 50) (v := ?vq111x) rfl rfl rfl rfl (by kernel_rfl) (by kernel_rfl) (by kernel_rfl) (fun _ _ _ h => h) (by rfl) ?hq111x hHeld ?rq111x
            case hq111x => (intro w' hSw; (try dsimp only at hSw); go_simp <;> with_reducible rfl)
            try simp only [Act.put, List.setIfInBounds_toArray, List.set_cons_zero, List.set_cons_succ]
            refine call_op (i := 11) (d := 185) (OP := Op.call { callee := Callee.value (Operand.func 31), args := #[Operand.tmp 177, Operand.tmp 184], argTypes := #[50, 50] }) (T := 4) (f := 31) (args := #[.agg #[.int .i64 x.kind, .int .i64 x.area, .slice a5 x.data.length c5], .agg #[.int .i64 x.kind, .int .i64 x.area, .slice ar' x.data.length cr']]) rfl rfl rfl rfl (by kernel_rfl) (by rfl) (by go_simp) ?_
            refine (hsw30).mono ?_
            rintro e W7 ⟨rfl, b7⟩
            have hS7 : W7.cell? ⟨w3.heap.size + 1, 0, none⟩ = some (.int .i64 (k : Int)) ∧ W7.cell? ⟨w.heap.size + 1, 0, none⟩ = some (.pointer (some ⟨R, 0, none⟩)) ∧ W7.cell? ⟨R, 7, none⟩ = some (.slice (some ⟨g, 0, none⟩) log.length lc) ∧ W7.cell? ⟨W5.heap.size, 0, none⟩ = some (.int .i64 x.kind) ∧ W7.cell? ⟨W5.heap.size, 1, none⟩ = some (.int .i64 x.area) ∧ W7.cell? ⟨W5.heap.size, 2, none⟩ = some (.slice a5 x.data.length c5) ∧ W7.cell? ⟨g, k * 3, none⟩ = some (.int .i64 x.kind) ∧ W7.cell? ⟨g, k * 3 + 1, none⟩ = some (.int .i64 x.area) ∧ W7.cell? ⟨g, k * 3 + 2, none⟩ = some (.slice ar' x.data.length cr') := ⟨(b7.cell (World.block_lt_of_cell? _ _ hHeld.1)).trans hHeld.1, (b7.cell (World.block_lt_of_cell? _ _ hHeld.2.1)).trans hHeld.2.1, (b7.cell (World.block_lt_of_cell? _ _ hHeld.2.2.1)).trans hHeld.2.2.1, (b7.cell (World.block_lt_of_cell? _ _ hHeld.2.2.2.1)).trans hHeld.2.2.2.1, (b7.cell (World.block_lt_of_cell? _ _ hHeld.2.2.2.2.1)).trans hHeld.2.2.2.2.1, (b7.cell (World.block_lt_of_cell? _ _ hHeld.2.2.2.2.2.1)).trans hHeld.2.2.2.2.2.1, (b7.cell (World.block_lt_of_cell? _ _ hHeld.2.2.2.2.2.2.1)).trans hHeld.2.2.2.2.2.2.1, (b7.cell (World.block_lt_of_cell? _ _ hHeld.2.2.2.2.2.2.2.1)).trans hHeld.2.2.2.2.2.2.2.1, (b7.cell (World.block_lt_of_cell? _ _ hHeld.2.2.2.2.2.2.2.2)).trans hHeld.2.2.2.2.2.2.2.2⟩
            refine ⟨_, rfl, hS7, ?_⟩
            replace hHeld := hS7
            try simp only [Act.put, List.setIfInBounds_toArray, List.set_cons_zero, List.set_cons_succ]
            refine take_op (i := 12) (d := 186) (OP := Op.unOp UnOp.not 4 (Operand.tmp 185)) (T := 4) (v := ?vq113x) rfl rfl rfl rfl (by kernel_rfl) (by kernel_rfl) (by kernel_rfl) (fun _ _ _ h => h) (by rfl) ?hq113x hHeld ?rq113x
            case hq113x => (intro w' hSw; (try dsimp only at hSw); go_simp <;> with_reducible rfl)
            try simp only [Act.put, List.setIfInBounds_toArray, List.set_cons_zero, List.set_cons_succ]
            refine take_op (i := 13) (d := 187) (OP := Op.pick (Operand.tmp 176) (Operand.const (Value.bool true)) (Operand.tmp 186)) (T := 4) (v := ?vq114x) rfl rfl rfl rfl (by kernel_rfl) (by kernel_rfl) (by kernel_rfl) (fun _ _ _ h => h) (by rfl) ?hq114x hHeld ?rq114x
            case hq114x => (intro w' hSw; (try dsimp only at hSw); go_simp <;> with_reducible rfl)
            try simp only [Act.put, List.setIfInBounds_toArray, List.set_cons_zero, List.set_cons_succ]
            refine wpAnyH_done (by kernel_rfl) ?_ _
            have b47 : Below W4.heap.size W4 W7 := (HI6.out.2.1.trans (HI6.out.2.2.mono HI6.out.2.1.size)).trans (b7.mono (Nat.le_trans HI6.out.2.1.size HI6.out.2.2.size))
            have hi7 := HI4.out.below b47
            obtain ⟨n7, z7⟩ := hi7.cell
            obtain ⟨_, _, e3, e4, _, _, _⟩ := HF1.out W7 hi7.1
            have hEnd := turn_end b23 hon hY b47 hi7
            have hne1 : ¬ (w.heap.size + 1 + 1 = w3.heap.size + 1) := by omega
            have hne2 : ¬ (w3.heap.size + 1 = w.heap.size + 1 + 1) := by omega
            have hne3 : ¬ (w.heap.size + 1 = w3.heap.size) := by omega
            have hne4 : ¬ (w3.heap.size = w.heap.size + 1) := by omega
            clear hHeld hS30 hS7 hsw30 b7
            gi_wp2
            exact hEnd

          case hdone =>
            intro W1 hJ hlsW1 hK1
            obtain ⟨k1, hk1, hi1⟩ := hJ
            obtain rfl : k1 = log.length := by
              rcases hk1 with h | ⟨h, _⟩
              · exact h
              · exact absurd h (by decide)
            obtain ⟨e1, e2, e3, e4, eS, eP, eB⟩ := HF1.out W1 hi1.1
            have e7 := eS.box
            have n7 := hi1.cell.1
            have hsW1 : w3.heap.size + 1 < W1.heap.size := hi1.size
            have hK01 : W1.heap[wA0.heap.size]? = some (.deferred (some [])) := (hi1.1.block _ (by omega)).trans ((bN.block _ hlt0).trans hK0')
            have HE := hide (And.intro eB (And.intro hK01 hK1))
            clear hI0 hlogA bA1 bN hTc eS eP hi1 eB hK01 hK1 hk1
            go_wp2
            go_quiet (fail)
            have hw4 : Below W1.heap.size W1 (W1.drewN nq) := below_drew W1 nq
            have h4w : (W1.drewN nq).cell? ⟨w3.heap.size, 0, none⟩ = some (.int .i64 1) := e4
            generalize W1.drewN nq = w4 at hw4 h4w ⊢
            have hsw4 := hw4.size
            obtain ⟨eB, hK01, hK1⟩ := HE.out
            have hb5 : Below W1.heap.size W1 (w4.alloc (.cells #[.int .i64 2] 3)) := hw4.alloc hsw4 _
            have eB5 := eB.trans (hb5.mono (by omega))
            have c4 := (stW_boxes w (.pointer (some ⟨D, 0, none⟩)) (.pointer (some ⟨R, 0, none⟩)) leave _ eB5).2.2.2
            have c5 : (w4.alloc (.cells #[.int .i64 2] 3)).cell? ⟨w.heap.size + 1 + 1 + 1, 0, none⟩ = some (.bool false) := by rw [cell_of_row _ _ 0 _ 4 (0, 0) c4]; rfl
            have c6 : (w4.alloc (.cells #[.int .i64 2] 3)).frozen? ⟨w.heap.size + 1 + 1 + 1, 0, none⟩ = false := frozen_of_row _ _ 0 _ 4 c4
            have hk0 := (hb5.block _ (by omega)).trans hK01
            have hk1' := (hb5.block _ (by omega)).trans hK1
            have HZ := hide (And.intro eB5 (And.intro c4 (And.intro hk0 hk1')))
            clear e1 e2 e3 e4 e7 n7 eB hK01 hK1 hb5 eB5 c4 hk0 hk1' HE
            go_wp2
            rw [rounds_succ]
            go_wp2
            obtain ⟨eB5, c4, hk0, hk1'⟩ := HZ.out
            generalize w4.alloc (.cells #[.int .i64 2] 3) = w5 at eB5 c4 hk0 hk1' ⊢
            have hset := Only.ofGrown (grown_setCell w5 ⟨w.heap.size + 1 + 1 + 1, 0, none⟩ (.bool true))
            have q1 : Below w.heap.size w w5 := hb4.out.trans (eB5.mono (by omega))
            have hs5 := q1.size
            have hx0 := (hset.block (w2.heap.size + 1 + 1) (Array.getElem?_eq_some_iff.1 (hsA0 ▸ hk0)).1 (by intro e; have e' : w.heap.size + 1 + 1 + 1 = w2.heap.size + 1 + 1 := (by injection e); omega)).trans (hsA0 ▸ hk0)
            have hx1 := (hset.block wA1.heap.size (Array.getElem?_eq_some_iff.1 hk1').1 (by intro e; have e' : w.heap.size + 1 + 1 + 1 = wA1.heap.size := (by injection e); omega)).trans hk1'
            have hcell : (w5.setCell ⟨w.heap.size + 1 + 1 + 1, 0, none⟩ (.bool true)).cell? ⟨w.heap.size + 1 + 1 + 1, 0, none⟩ = some (.bool true) := by rw [cell_of_row _ _ 0 _ 4 (0, 0) (heap_setCell_same _ _ _ _ 4 _ c4)]; rfl
            have hB6 : Below w.heap.size w (w5.setCell ⟨w.heap.size + 1 + 1 + 1, 0, none⟩ (.bool true)) := Below.only q1 hset hs5 (by intro j e; cases e; simp only; omega)
            have p1 := only_putObj (w5.setCell ⟨w.heap.size + 1 + 1 + 1, 0, none⟩ (.bool true)) wA1.heap.size (.deferred none)
            have hx0' := (p1.block (w2.heap.size + 1 + 1) (Array.getElem?_eq_some_iff.1 hx0).1 (by omega)).trans hx0
            have p2 := only_putObj ((w5.setCell ⟨w.heap.size + 1 + 1 + 1, 0, none⟩ (.bool true)).putObj wA1.heap.size (.deferred none)) (w2.heap.size + 1 + 1) (.deferred none)
            try rw [hsA0]
            exact leave_mark (fn := Try.f11) hx1 (leave_mark hx0' (leave_cell (w.heap.size + 1 + 1 + 1) (x := true) rfl rfl (p2.cell (p1.cell hcell (by simp only; omega)) (by simp only; omega)) ⟨rfl, Below.only (Below.only hB6 p1 hB6.size (by intro j e; omega)) p2 (by have := hB6.size; simpa using this) (by intro j e; omega)⟩))


end Go.Proofs.Ytfaceimamipbpaa
