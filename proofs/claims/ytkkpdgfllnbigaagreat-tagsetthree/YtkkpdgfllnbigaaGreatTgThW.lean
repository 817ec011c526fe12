/-
  The law TagsetThree (5), walked.
-/
import Derived.Test.YtkkpdgfllnbigaaGreatTgT3
import Derived.Test.YtkkpdgfllnbigaaGreatMg17
namespace Go.Proofs.YtkkpdgfllnbigaaGreat.Tg
open Go.RowKit Go.Shelf
set_option linter.unusedSimpArgs false
set_option linter.unusedVariables false
attribute [local go_sem] Oper.semAt_some

set_option maxHeartbeats 16000000 in
set_option maxRecDepth 100000 in
theorem three5 {w : World} {oo oa ob : Option Addr} {co ca cb : Nat} (base a b : List El) (ho : Re w oo base) (ha : Re w oa a) (hb : Re w ob b) (so : ∀ x ∈ base, x.1.2.2.1.size ≤ 9223372036854775807) (sa : ∀ x ∈ a, x.1.2.2.1.size ≤ 9223372036854775807) (sb : ∀ x ∈ b, x.1.2.2.1.size ≤ 9223372036854775807) : Calls Tryz.prog 5 #[.slice oo base.length co, .slice oa a.length ca, .slice ob b.length cb] w fun e w' => e = .returned (.bool true) ∧ Below w.heap.size w w' := by
  obtain ⟨NO, hNO⟩ : ∃ N, N = base.length := ⟨_, rfl⟩
  obtain ⟨NA, hNA⟩ : ∃ N, N = a.length := ⟨_, rfl⟩
  obtain ⟨NB, hNB⟩ : ∃ N, N = b.length := ⟨_, rfl⟩
  have hkn : ∀ W, Calls Tryz.prog 17 #[] W fun e w' => e = .returned (.bool true) ∧ Below W.heap.size W w' := known17
  have hmO : ∀ W, Below w.heap.size w W → NO ≤ 60 → Calls Tryz.prog 19 #[.slice oo NO co] W fun e w' => e = .returned (.bool (goodT base)) ∧ Below W.heap.size W w' := fun W hW h60 => by
    have := refMay11 (c := co) base (ho.below hW) (by omega) so
    rw [may_goodT base, ← hNO] at this
    exact this
  have hfO : ∀ W, Below w.heap.size w W → NO ≤ 60 → goodT base = true → Calls Tryz.prog 18 #[.slice oo NO co] W fun e w' => ∃ t pt, t.ptr = .pointer pt ∧ e = .returned (.tuple #[.agg #[.pointer pt], .int .i64 0]) ∧ Mg w' t ∧ (mayT t.list = true ∧ (∀ z, z ∈ tagsL t.list ↔ z ∈ base) ∧ t.n ≤ 60 ∧ t.over W.heap.size) ∧ Below W.heap.size W w' := fun W hW h60 hg => by
    have := ofTG (c := co) base (ho.below hW) (by omega) hg
    rw [← hNO] at this
    exact this.mono fun e w' ⟨t, pt, h1, h2, h3, ⟨h4, h5, h6, h7⟩, h8⟩ => ⟨t, pt, h1, h2, h3, ⟨h4, h5, by omega, h7⟩, h8⟩
  have hmA : ∀ W, Below w.heap.size w W → NA ≤ 60 → Calls Tryz.prog 19 #[.slice oa NA ca] W fun e w' => e = .returned (.bool (goodT a)) ∧ Below W.heap.size W w' := fun W hW h60 => by
    have := refMay11 (c := ca) a (ha.below hW) (by omega) sa
    rw [may_goodT a, ← hNA] at this
    exact this
  have hfA : ∀ W, Below w.heap.size w W → NA ≤ 60 → goodT a = true → Calls Tryz.prog 18 #[.slice oa NA ca] W fun e w' => ∃ t pt, t.ptr = .pointer pt ∧ e = .returned (.tuple #[.agg #[.pointer pt], .int .i64 0]) ∧ Mg w' t ∧ (mayT t.list = true ∧ (∀ z, z ∈ tagsL t.list ↔ z ∈ a) ∧ t.n ≤ 60 ∧ t.over W.heap.size) ∧ Below W.heap.size W w' := fun W hW h60 hg => by
    have := ofTG (c := ca) a (ha.below hW) (by omega) hg
    rw [← hNA] at this
    exact this.mono fun e w' ⟨t, pt, h1, h2, h3, ⟨h4, h5, h6, h7⟩, h8⟩ => ⟨t, pt, h1, h2, h3, ⟨h4, h5, by omega, h7⟩, h8⟩
  have hmB : ∀ W, Below w.heap.size w W → NB ≤ 60 → Calls Tryz.prog 19 #[.slice ob NB cb] W fun e w' => e = .returned (.bool (goodT b)) ∧ Below W.heap.size W w' := fun W hW h60 => by
    have := refMay11 (c := cb) b (hb.below hW) (by omega) sb
    rw [may_goodT b, ← hNB] at this
    exact this
  have hfB : ∀ W, Below w.heap.size w W → NB ≤ 60 → goodT b = true → Calls Tryz.prog 18 #[.slice ob NB cb] W fun e w' => ∃ t pt, t.ptr = .pointer pt ∧ e = .returned (.tuple #[.agg #[.pointer pt], .int .i64 0]) ∧ Mg w' t ∧ (mayT t.list = true ∧ (∀ z, z ∈ tagsL t.list ↔ z ∈ b) ∧ t.n ≤ 60 ∧ t.over W.heap.size) ∧ Below W.heap.size W w' := fun W hW h60 hg => by
    have := ofTG (c := cb) b (hb.below hW) (by omega) hg
    rw [← hNB] at this
    exact this.mono fun e w' ⟨t, pt, h1, h2, h3, ⟨h4, h5, h6, h7⟩, h8⟩ => ⟨t, pt, h1, h2, h3, ⟨h4, h5, by omega, h7⟩, h8⟩
  have hr : ∀ W, Below w.heap.size w W → NO ≤ 60 → NA ≤ 60 → NB ≤ 60 → goodT a = true → goodT b = true → Calls Tryz.prog 38 #[.slice oo NO co, .slice oa NA ca, .slice ob NB cb] W fun e w' => ∃ a9 c9, e = .returned (.slice a9 (srtQ (thr base a b)).length c9) ∧ Re w' a9 (srtQ (thr base a b)) ∧ Below W.heap.size W w' := fun W hW h1 h2 h3 g1 g2 => by
    have := three38 (co := co) (ca := ca) (cb := cb) (ho.below hW) (ha.below hW) (hb.below hW) (by omega) (by omega) (by omega) (good_ok g1) (good_ok g2)
    unfold ChgE at this
    rw [← hNO, ← hNA, ← hNB] at this
    exact this.mono fun e w' ⟨x1, x2, h1, h2, h3⟩ => ⟨x1, x2, h1, h2.re, h3⟩
  have hs : ∀ W, Below w.heap.size w W → NA ≤ 60 → goodT a = true → Calls Tryz.prog 22 #[.slice oa NA ca] W fun e w' => ∃ a9 c9, e = .returned (.slice a9 (srtQ a).length c9) ∧ Re w' a9 (srtQ a) ∧ Below W.heap.size W w' := fun W hW h2 g1 => by
    have := sorted22 (c := ca) a (ha.below hW) (by omega) (good_ok g1)
    rw [← hNA] at this
    refine this.mono fun e w' hh => ?_
    obtain ⟨v, he, hO, hb9⟩ := hh
    obtain ⟨ao9, c9, hv, -⟩ := hO.form
    subst hv
    exact ⟨ao9, c9, he, hO.re, hb9⟩
  have HN := hide (And.intro hNO (And.intro hNA hNB))
  rw [← hNO, ← hNA, ← hNB]
  clear hNO hNA hNB ho ha hb so sa sb
  go_enter Tryz.func5, Tryz.ntmps5
  go_upto_region 3 with (go_at_call 17; refine (hkn _).mono ?_; rintro e w1 ⟨rfl, b1⟩; have H1 := hide b1; clear b1; dsimp only)
  go_cut [55] (fun v55 wc => ∃ B : Bool, v55 = .bool B ∧ Hid ((B = false → NO ≤ 60 ∧ NA ≤ 60 ∧ NB ≤ 60 ∧ goodT base = true ∧ goodT a = true ∧ goodT b = true) ∧ Below w.heap.size w wc))
  case first =>
    clear hr hs
    by_cases n0 : 60 < NO
    · have z0 : (60 : Int) < (NO : Int) := by omega
      have y0 : decide (60 < NO) = true := by simpa using n0
      go_wp2
      go_meet
      exact ⟨true, rfl, hide ⟨fun h => (by cases h), H1.out⟩⟩
    · have z0 : ¬ (60 : Int) < (NO : Int) := by omega
      have y0 : decide (60 < NO) = false := by simpa using n0
      by_cases n1 : 60 < NA
      · have z1 : (60 : Int) < (NA : Int) := by omega
        have y1 : decide (60 < NA) = true := by simpa using n1
        go_wp2
        go_meet
        exact ⟨true, rfl, hide ⟨fun h => (by cases h), H1.out⟩⟩
      · have z1 : ¬ (60 : Int) < (NA : Int) := by omega
        have y1 : decide (60 < NA) = false := by simpa using n1
        by_cases n2 : 60 < NB
        · have z2 : (60 : Int) < (NB : Int) := by omega
          have y2 : decide (60 < NB) = true := by simpa using n2
          go_wp2
          go_meet
          exact ⟨true, rfl, hide ⟨fun h => (by cases h), H1.out⟩⟩
        · have z2 : ¬ (60 : Int) < (NB : Int) := by omega
          have y2 : decide (60 < NB) = false := by simpa using n2
          have kO := fun W hW => hmO W hW (by omega)
          have kA := fun W hW => hmA W hW (by omega)
          have kB := fun W hW => hmB W hW (by omega)
          clear hmO hmA hmB
          obtain ⟨GO, hGO⟩ : ∃ q, q = goodT base := ⟨_, rfl⟩
          obtain ⟨GA, hGA⟩ : ∃ q, q = goodT a := ⟨_, rfl⟩
          obtain ⟨GB, hGB⟩ : ∃ q, q = goodT b := ⟨_, rfl⟩
          rw [← hGO] at kO
          rw [← hGA] at kA
          rw [← hGB] at kB
          have HG := hide (And.intro hGO (And.intro hGA hGB))
          clear hGO hGA hGB
          cases GO with
          | false =>
            go_wp2_with (first
              | (go_at_call 19; refine (kO _ H1.out).mono ?_; rintro e za ⟨rfl, bza⟩; have HA1 := hide (H1.out.trans (bza.mono H1.out.size)); clear bza; dsimp only))
            go_meet
            exact ⟨true, rfl, hide ⟨fun h => (by cases h), HA1.out⟩⟩
          | true =>
            cases GA with
            | false =>
              go_wp2_with (first
                | (go_at_call 19; refine (kA _ HA1.out).mono ?_; rintro e zb ⟨rfl, bzb⟩; have HA2 := hide (HA1.out.trans (bzb.mono HA1.out.size)); clear bzb; dsimp only)
                | (go_at_call 19; refine (kO _ H1.out).mono ?_; rintro e za ⟨rfl, bza⟩; have HA1 := hide (H1.out.trans (bza.mono H1.out.size)); clear bza; dsimp only))
              go_meet
              exact ⟨true, rfl, hide ⟨fun h => (by cases h), HA2.out⟩⟩
            | true =>
              cases GB with
              | false =>
                go_wp2_with (first
                  | (go_at_call 19; refine (kB _ HA2.out).mono ?_; rintro e zc ⟨rfl, bzc⟩; have HA3 := hide (HA2.out.trans (bzc.mono HA2.out.size)); clear bzc; dsimp only)
                  | (go_at_call 19; refine (kA _ HA1.out).mono ?_; rintro e zb ⟨rfl, bzb⟩; have HA2 := hide (HA1.out.trans (bzb.mono HA1.out.size)); clear bzb; dsimp only)
                  | (go_at_call 19; refine (kO _ H1.out).mono ?_; rintro e za ⟨rfl, bza⟩; have HA1 := hide (H1.out.trans (bza.mono H1.out.size)); clear bza; dsimp only))
                go_meet
                exact ⟨true, rfl, hide ⟨fun h => (by cases h), HA3.out⟩⟩
              | true =>
                go_wp2_with (first
                  | (go_at_call 19; refine (kB _ HA2.out).mono ?_; rintro e zc ⟨rfl, bzc⟩; have HA3 := hide (HA2.out.trans (bzc.mono HA2.out.size)); clear bzc; dsimp only)
                  | (go_at_call 19; refine (kA _ HA1.out).mono ?_; rintro e zb ⟨rfl, bzb⟩; have HA2 := hide (HA1.out.trans (bzb.mono HA1.out.size)); clear bzb; dsimp only)
                  | (go_at_call 19; refine (kO _ H1.out).mono ?_; rintro e za ⟨rfl, bza⟩; have HA1 := hide (H1.out.trans (bza.mono H1.out.size)); clear bza; dsimp only))
                go_meet
                exact ⟨false, rfl, hide ⟨fun _ => ⟨by omega, by omega, by omega, HG.out.1.symm, HG.out.2.1.symm, HG.out.2.2.symm⟩, HA3.out⟩⟩
  case rest =>
    obtain ⟨B, rfl, HB⟩ := hcut
    clear hmO hmA hmB H1
    cases B with
    | true =>
      clear hr hs hfO hfA hfB
      go_wp2
      go_ret
      exact ⟨rfl, HB.out.2⟩
    | false =>
      obtain ⟨⟨nO, nA, nB, gO, gA, gB⟩, bw⟩ := (And.intro (HB.out.1 rfl) HB.out.2 : _ ∧ _)
      replace hfO := fun W hW => hfO W hW nO gO
      replace hfA := fun W hW => hfA W hW nA gA
      replace hfB := fun W hW => hfB W hW nB gB
      replace hr := fun W hW => hr W hW nO nA nB gA gB
      replace hs := fun W hW => hs W hW nA gA
      have HL := hide (And.intro nO (And.intro nA (And.intro nB (And.intro gO (And.intro gA gB)))))
      have HR := hide (And.intro hr hs)
      have HP := hide bw
      clear nO nA nB gO gA gB bw HB hr hs
      go_upto_region 6 with (go_at_call 18; refine (hfO _ HP.out).mono ?_; rintro e w5 ⟨tx, px, hpt, rfl, mg, hfa, b1⟩; have Hc := hide (And.intro hpt (And.intro mg (And.intro hfa b1))); clear hpt mg hfa b1; dsimp only)
      obtain ⟨hpt, mg, hfa, bb⟩ := Hc.out
      obtain ⟨HXb, hHXb⟩ : ∃ q, q = w5.heap.size := ⟨_, rfl⟩
      obtain ⟨W5, hW5⟩ : ∃ q, q = w5.alloc (.cells #[.pointer px] 27) := ⟨_, rfl⟩
      have bW : Below w5.heap.size w5 W5 := by rw [hW5]; exact (Below.refl _ w5).alloc (Nat.le_refl _) _
      have bx : Boxd W5 HXb px tx := ⟨by rw [hW5, hHXb]; exact heap_alloc_new w5 _, hpt, mg.below bW⟩
      have bZ := bb.trans (bW.mono bb.size)
      have HX := hide (And.intro bx hfa)
      replace HP := hide (HP.out.trans (bZ.mono HP.out.size))
      rw [← hW5, ← hHXb]
      clear hpt mg hfa bb hHXb hW5 bW bx bZ Hc
      clear hfO
      go_upto_region 7 with (go_at_call 18; refine (hfA _ HP.out).mono ?_; rintro e w6 ⟨ty, py, hpt, rfl, mg, hfa, b1⟩; have Hc := hide (And.intro hpt (And.intro mg (And.intro hfa b1))); clear hpt mg hfa b1; dsimp only)
      obtain ⟨hpt, mg, hfa, bb⟩ := Hc.out
      obtain ⟨HYb, hHYb⟩ : ∃ q, q = w6.heap.size := ⟨_, rfl⟩
      obtain ⟨W6, hW6⟩ : ∃ q, q = w6.alloc (.cells #[.pointer py] 27) := ⟨_, rfl⟩
      have bW : Below w6.heap.size w6 W6 := by rw [hW6]; exact (Below.refl _ w6).alloc (Nat.le_refl _) _
      have bx : Boxd W6 HYb py ty := ⟨by rw [hW6, hHYb]; exact heap_alloc_new w6 _, hpt, mg.below bW⟩
      have bZ := bb.trans (bW.mono bb.size)
      have HAY : Hid (Pm.Apart tx ty) := hide (Pm.Apart.of_over HX.out.1.2.2.inn hfa.2.2.2)
      have HY := hide (And.intro bx hfa)
      replace HX := hide (And.intro (HX.out.1.below bZ) HX.out.2)
      replace HP := hide (HP.out.trans (bZ.mono HP.out.size))
      rw [← hW6, ← hHYb]
      clear hpt mg hfa bb hHYb hW6 bW bx bZ Hc
      clear hfA
      go_upto_region 8 with (go_at_call 18; refine (hfB _ HP.out).mono ?_; rintro e w7 ⟨tz, pz, hpt, rfl, mg, hfa, b1⟩; have Hc := hide (And.intro hpt (And.intro mg (And.intro hfa b1))); clear hpt mg hfa b1; dsimp only)
      obtain ⟨hpt, mg, hfa, bb⟩ := Hc.out
      obtain ⟨HZb, hHZb⟩ : ∃ q, q = w7.heap.size := ⟨_, rfl⟩
      obtain ⟨W7, hW7⟩ : ∃ q, q = w7.alloc (.cells #[.pointer pz] 27) := ⟨_, rfl⟩
      have bW : Below w7.heap.size w7 W7 := by rw [hW7]; exact (Below.refl _ w7).alloc (Nat.le_refl _) _
      have bx : Boxd W7 HZb pz tz := ⟨by rw [hW7, hHZb]; exact heap_alloc_new w7 _, hpt, mg.below bW⟩
      have bZ := bb.trans (bW.mono bb.size)
      have HAZ : Hid (Pm.Apart tx tz) := hide (Pm.Apart.of_over HX.out.1.2.2.inn hfa.2.2.2)
      have HZ := hide (And.intro bx hfa)
      replace HX := hide (And.intro (HX.out.1.below bZ) HX.out.2)
      replace HY := hide (And.intro (HY.out.1.below bZ) HY.out.2)
      replace HP := hide (HP.out.trans (bZ.mono HP.out.size))
      rw [← hW7, ← hHZb]
      clear hpt mg hfa bb hHZb hW7 bW bx bZ Hc
      clear hfB
      have cX := HX.out.1.cell
      have cY := HY.out.1.cell
      have cZ := HZ.out.1.cell
      have ht1 : Calls Tryz.prog 34 #[.agg #[.pointer px], .agg #[.pointer py], .agg #[.pointer pz]] W7 fun e w' => ∃ t pt, t.ptr = .pointer pt ∧ e = .returned (.tuple #[.agg #[.pointer pt], .int .i64 0]) ∧ Mg w' t ∧ (mayT t.list = true ∧ elsT t.list = srtQ (thr base a b)) ∧ Below W7.heap.size W7 w' := by
        refine (three34 HX.out.1.2.2 HX.out.1.2.1 HY.out.1.2.2 HY.out.1.2.1 HZ.out.1.2.2 HZ.out.1.2.1 HX.out.2.1 HY.out.2.1 HZ.out.2.1 HAY.out (by have := HY.out.2.2.2.1; have := HZ.out.2.2.2.1; omega)).mono (fun e w' hh => ?_)
        obtain ⟨t4, p4, h1, h2, h3, h4, h5⟩ := hh
        have ht := tog_tags HX.out.2.1 HY.out.2.1 HZ.out.2.1 HX.out.1.2.2.srt HY.out.1.2.2.srt HZ.out.1.2.2.srt h3.srt HX.out.2.2.1 HY.out.2.2.1 HZ.out.2.2.1 h4
        exact ⟨t4, p4, h1, h2, h3, ⟨ht.1, els_thr h3.srt (thr_nodup (good_nodup HL.out.2.2.2.2.1) (good_nodup HL.out.2.2.2.2.2)) (fun z => ht.2 z)⟩, h5⟩
      go_upto_region 9 with (go_at_call 34; refine (ht1).mono ?_; rintro e w8 ⟨tm, pm, hpt, rfl, mg, hfa, b1⟩; have Hc := hide (And.intro hpt (And.intro mg (And.intro hfa b1))); clear hpt mg hfa b1; dsimp only)
      obtain ⟨hpt, mg, hfa, bb⟩ := Hc.out
      obtain ⟨HMb, hHMb⟩ : ∃ q, q = w8.heap.size := ⟨_, rfl⟩
      obtain ⟨W8, hW8⟩ : ∃ q, q = w8.alloc (.cells #[.pointer pm] 27) := ⟨_, rfl⟩
      have bW : Below w8.heap.size w8 W8 := by rw [hW8]; exact (Below.refl _ w8).alloc (Nat.le_refl _) _
      have bx : Boxd W8 HMb pm tm := ⟨by rw [hW8, hHMb]; exact heap_alloc_new w8 _, hpt, mg.below bW⟩
      have bZ := bb.trans (bW.mono bb.size)
      have HM := hide (And.intro bx hfa)
      replace HX := hide (And.intro (HX.out.1.below bZ) HX.out.2)
      replace HY := hide (And.intro (HY.out.1.below bZ) HY.out.2)
      replace HZ := hide (And.intro (HZ.out.1.below bZ) HZ.out.2)
      replace HP := hide (HP.out.trans (bZ.mono HP.out.size))
      rw [← hW8, ← hHMb]
      clear hpt mg hfa bb hHMb hW8 bW bx bZ Hc
      clear ht1 cX cY cZ
      have cX := HX.out.1.cell
      have cY := HY.out.1.cell
      have cZ := HZ.out.1.cell
      have ht2 : Calls Tryz.prog 34 #[.agg #[.pointer px], .agg #[.pointer pz], .agg #[.pointer py]] W8 fun e w' => ∃ t pt, t.ptr = .pointer pt ∧ e = .returned (.tuple #[.agg #[.pointer pt], .int .i64 0]) ∧ Mg w' t ∧ (mayT t.list = true ∧ elsT t.list = srtQ (thr base a b)) ∧ Below W8.heap.size W8 w' := by
        refine (three34 HX.out.1.2.2 HX.out.1.2.1 HZ.out.1.2.2 HZ.out.1.2.1 HY.out.1.2.2 HY.out.1.2.1 HX.out.2.1 HZ.out.2.1 HY.out.2.1 HAZ.out (by have := HZ.out.2.2.2.1; have := HY.out.2.2.2.1; omega)).mono (fun e w' hh => ?_)
        obtain ⟨t4, p4, h1, h2, h3, h4, h5⟩ := hh
        have ht := tog_tags HX.out.2.1 HZ.out.2.1 HY.out.2.1 HX.out.1.2.2.srt HZ.out.1.2.2.srt HY.out.1.2.2.srt h3.srt HX.out.2.2.1 HZ.out.2.2.1 HY.out.2.2.1 h4
        exact ⟨t4, p4, h1, h2, h3, ⟨ht.1, els_thr h3.srt (thr_nodup (good_nodup HL.out.2.2.2.2.1) (good_nodup HL.out.2.2.2.2.2)) (fun z => (ht.2 z).trans (thr_turn z))⟩, h5⟩
      go_upto_region 10 with (go_at_call 34; refine (ht2).mono ?_; rintro e w9 ⟨tn, pn, hpt, rfl, mg, hfa, b1⟩; have Hc := hide (And.intro hpt (And.intro mg (And.intro hfa b1))); clear hpt mg hfa b1; dsimp only)
      obtain ⟨hpt, mg, hfa, bb⟩ := Hc.out
      obtain ⟨HNNb, hHNNb⟩ : ∃ q, q = w9.heap.size := ⟨_, rfl⟩
      obtain ⟨W9, hW9⟩ : ∃ q, q = w9.alloc (.cells #[.pointer pn] 27) := ⟨_, rfl⟩
      have bW : Below w9.heap.size w9 W9 := by rw [hW9]; exact (Below.refl _ w9).alloc (Nat.le_refl _) _
      have bx : Boxd W9 HNNb pn tn := ⟨by rw [hW9, hHNNb]; exact heap_alloc_new w9 _, hpt, mg.below bW⟩
      have bZ := bb.trans (bW.mono bb.size)
      have HNN := hide (And.intro bx hfa)
      replace HX := hide (And.intro (HX.out.1.below bZ) HX.out.2)
      replace HY := hide (And.intro (HY.out.1.below bZ) HY.out.2)
      replace HZ := hide (And.intro (HZ.out.1.below bZ) HZ.out.2)
      replace HM := hide (And.intro (HM.out.1.below bZ) HM.out.2)
      replace HP := hide (HP.out.trans (bZ.mono HP.out.size))
      rw [← hW9, ← hHNNb]
      clear hpt mg hfa bb hHNNb hW9 bW bx bZ Hc
      clear ht2 cX cY cZ HZ HAZ
      go_upto_region 12 with (go_at_call 20; refine (num20 _ _).mono ?_; rintro e wz ⟨rfl, rfl⟩; dsimp only)
      obtain ⟨L1, hL1⟩ : ∃ q, q = srtQ (thr base a b) := ⟨_, rfl⟩
      obtain ⟨M1, hM1⟩ : ∃ q, q = L1.length := ⟨_, rfl⟩
      have hr1 := HR.out.1 _ HP.out
      rw [← hL1] at hr1
      rw [← hM1] at hr1
      have HE1 := hide (And.intro hL1 hM1)
      clear hL1 hM1
      go_upto_region 13 with (go_at_call 38; refine hr1.mono ?_; rintro e wr ⟨a9, c9, rfl, re9, b1⟩; have Hc := hide (And.intro re9 b1); clear re9 b1; dsimp only)
      have bZ := Hc.out.2
      replace HX := hide (And.intro (HX.out.1.below bZ) HX.out.2)
      replace HY := hide (And.intro (HY.out.1.below bZ) HY.out.2)
      replace HM := hide (And.intro (HM.out.1.below bZ) HM.out.2)
      replace HNN := hide (And.intro (HNN.out.1.below bZ) HNN.out.2)
      replace HP := hide (HP.out.trans (bZ.mono HP.out.size))
      have HR0 := hide Hc.out.1
      clear bZ Hc hr1
      have cHM := HM.out.1.cell
      have he1 := elements29 HM.out.1.2.2 HM.out.1.2.1
      rw [HM.out.2.1, if_pos rfl, HM.out.2.2] at he1
      rw [← HE1.out.1] at he1
      rw [← HE1.out.2] at he1
      go_upto_region 14 with (go_at_call 29; refine he1.mono ?_; rintro e w10 ⟨a4, c4, rfl, oe, b1⟩; have Hc := hide (And.intro oe.re b1); clear oe b1; dsimp only)
      have bZ := Hc.out.2
      replace HX := hide (And.intro (HX.out.1.below bZ) HX.out.2)
      replace HY := hide (And.intro (HY.out.1.below bZ) HY.out.2)
      replace HNN := hide (And.intro (HNN.out.1.below bZ) HNN.out.2)
      replace HR0 := hide (HR0.out.below bZ)
      replace HP := hide (HP.out.trans (bZ.mono HP.out.size))
      have HR1 := hide Hc.out.1
      clear bZ Hc he1 cHM HM
      have cHNN := HNN.out.1.cell
      have he2 := elements29 HNN.out.1.2.2 HNN.out.1.2.1
      rw [HNN.out.2.1, if_pos rfl, HNN.out.2.2] at he2
      rw [← HE1.out.1] at he2
      rw [← HE1.out.2] at he2
      go_upto_region 15 with (go_at_call 29; refine he2.mono ?_; rintro e w11 ⟨a5, c5, rfl, oe, b1⟩; have Hc := hide (And.intro oe.re b1); clear oe b1; dsimp only)
      have bZ := Hc.out.2
      replace HX := hide (And.intro (HX.out.1.below bZ) HX.out.2)
      replace HY := hide (And.intro (HY.out.1.below bZ) HY.out.2)
      replace HR0 := hide (HR0.out.below bZ)
      replace HR1 := hide (HR1.out.below bZ)
      replace HP := hide (HP.out.trans (bZ.mono HP.out.size))
      have HR2 := hide Hc.out.1
      clear bZ Hc he2 cHNN HNN
      have hlen : M1 ≤ 120 := by
        have e1 : M1 = _ := HE1.out.2.trans (congrArg List.length HE1.out.1)
        have h1 := thr_len base a b
        rw [srtQ_len] at e1
        have := HN.out.2.1; have := HN.out.2.2; have := HL.out.2.1; have := HL.out.2.2.1
        omega
      have hq1 : ∀ W, Below w11.heap.size w11 W → Calls Tryz.prog 39 #[.slice a4 M1 c4, .slice a9 M1 c9] W fun e w' => e = .returned (.bool true) ∧ Below W.heap.size W w' := fun W hW => by
        have hl : L1.length ≤ 1000000 := by rw [← HE1.out.2]; omega
        have := sameEls_any (c := c4) (d := c9) (HR1.out.below hW) (HR0.out.below hW) hl hl
        rw [← HE1.out.2, decide_eq_true rfl] at this
        exact this.mono (fun e w' ⟨he, n, hn⟩ => ⟨he, by rw [hn]; exact below_drew _ _⟩)
      have hq2 : ∀ W, Below w11.heap.size w11 W → Calls Tryz.prog 39 #[.slice a5 M1 c5, .slice a9 M1 c9] W fun e w' => e = .returned (.bool true) ∧ Below W.heap.size W w' := fun W hW => by
        have hl : L1.length ≤ 1000000 := by rw [← HE1.out.2]; omega
        have := sameEls_any (c := c5) (d := c9) (HR2.out.below hW) (HR0.out.below hW) hl hl
        rw [← HE1.out.2, decide_eq_true rfl] at this
        exact this.mono (fun e w' ⟨he, n, hn⟩ => ⟨he, by rw [hn]; exact below_drew _ _⟩)
      clear hlen
      go_upto_region 17 with (first
        | (go_at_call 39; refine (hq2 _ HC.out).mono ?_; rintro e zf ⟨rfl, bzf⟩; have HZ := hide (HC.out.trans (bzf.mono HC.out.size)); clear bzf; dsimp only)
        | (go_at_call 39; refine (hq1 _ (Below.refl _ _)).mono ?_; rintro e zd ⟨rfl, bzd⟩; have HC := hide bzd; clear bzd; dsimp only)
        | (go_at_call 20; refine (num20 _ _).mono ?_; rintro e wz ⟨rfl, rfl⟩; dsimp only))
      clear hq1 hq2 HR0 HR1 HR2 HE1 HC
      replace HX := hide (And.intro (HX.out.1.below HZ.out) HX.out.2)
      replace HY := hide (And.intro (HY.out.1.below HZ.out) HY.out.2)
      replace HP := hide (HP.out.trans (HZ.out.mono HP.out.size))
      clear HZ
      generalize wz = W12 at *
      have cX := HX.out.1.cell
      have cY := HY.out.1.cell
      have ht3 : Calls Tryz.prog 34 #[.agg #[.pointer px], .agg #[.pointer py], .agg #[.pointer px]] W12 fun e w' => ∃ t pt, t.ptr = .pointer pt ∧ e = .returned (.tuple #[.agg #[.pointer pt], .int .i64 0]) ∧ Mg w' t ∧ (mayT t.list = true ∧ elsT t.list = srtQ a) ∧ Below W12.heap.size W12 w' := by
        refine (three34 HX.out.1.2.2 HX.out.1.2.1 HY.out.1.2.2 HY.out.1.2.1 HX.out.1.2.2 HX.out.1.2.1 HX.out.2.1 HY.out.2.1 HX.out.2.1 HAY.out (by have := HY.out.2.2.2.1; have := HX.out.2.2.2.1; omega)).mono (fun e w' hh => ?_)
        obtain ⟨t4, p4, h1, h2, h3, h4, h5⟩ := hh
        have ht := tog_tags HX.out.2.1 HY.out.2.1 HX.out.2.1 HX.out.1.2.2.srt HY.out.1.2.2.srt HX.out.1.2.2.srt h3.srt HX.out.2.2.1 HY.out.2.2.1 HX.out.2.2.1 h4
        exact ⟨t4, p4, h1, h2, h3, ⟨ht.1, els_thr h3.srt (good_nodup HL.out.2.2.2.2.1) (fun z => (ht.2 z).trans (thr_back z))⟩, h5⟩
      go_upto_region 18 with (go_at_call 34; refine (ht3).mono ?_; rintro e w13 ⟨tu, pu, hpt, rfl, mg, hfa, b1⟩; have Hc := hide (And.intro hpt (And.intro mg (And.intro hfa b1))); clear hpt mg hfa b1; dsimp only)
      obtain ⟨hpt, mg, hfa, bb⟩ := Hc.out
      obtain ⟨HUb, hHUb⟩ : ∃ q, q = w13.heap.size := ⟨_, rfl⟩
      obtain ⟨W13, hW13⟩ : ∃ q, q = w13.alloc (.cells #[.pointer pu] 27) := ⟨_, rfl⟩
      have bW : Below w13.heap.size w13 W13 := by rw [hW13]; exact (Below.refl _ w13).alloc (Nat.le_refl _) _
      have bx : Boxd W13 HUb pu tu := ⟨by rw [hW13, hHUb]; exact heap_alloc_new w13 _, hpt, mg.below bW⟩
      have bZ := bb.trans (bW.mono bb.size)
      have HU := hide (And.intro bx hfa)
      replace HP := hide (HP.out.trans (bZ.mono HP.out.size))
      rw [← hW13, ← hHUb]
      clear hpt mg hfa bb hHUb hW13 bW bx bZ Hc
      clear ht3 cX cY HX HY HAY
      obtain ⟨L3, hL3⟩ : ∃ q, q = srtQ a := ⟨_, rfl⟩
      obtain ⟨M3, hM3⟩ : ∃ q, q = L3.length := ⟨_, rfl⟩
      have HE3 := hide (And.intro hL3 hM3)
      clear hL3 hM3
      have cHU := HU.out.1.cell
      have he3 := elements29 HU.out.1.2.2 HU.out.1.2.1
      rw [HU.out.2.1, if_pos rfl, HU.out.2.2] at he3
      rw [← HE3.out.1] at he3
      rw [← HE3.out.2] at he3
      go_upto_region 19 with (go_at_call 29; refine he3.mono ?_; rintro e w14 ⟨a6, c6, rfl, oe, b1⟩; have Hc := hide (And.intro oe.re b1); clear oe b1; dsimp only)
      have bZ := Hc.out.2
      replace HP := hide (HP.out.trans (bZ.mono HP.out.size))
      have HR3 := hide Hc.out.1
      clear bZ Hc he3 cHU HU
      have hs1 := HR.out.2 w14 HP.out
      rw [← HE3.out.1] at hs1
      rw [← HE3.out.2] at hs1
      have hst : ∀ W a7 c7, Below w14.heap.size w14 W → Re W a7 L3 → Calls Tryz.prog 39 #[.slice a6 M3 c6, .slice a7 M3 c7] W fun e w' => e = .returned (.bool true) ∧ Below W.heap.size W w' := fun W a7 c7 hW hr7 => by
        have hl : L3.length ≤ 1000000 := by rw [HE3.out.1, srtQ_len, ← HN.out.2.1]; have := HL.out.2.1; omega
        have := sameEls_any (c := c6) (d := c7) (HR3.out.below hW) hr7 hl hl
        rw [← HE3.out.2, decide_eq_true rfl] at this
        exact this.mono (fun e w' ⟨he, n, hn⟩ => ⟨he, by rw [hn]; exact below_drew _ _⟩)
      go_wp2_with (first
        | (go_at_call 39; refine (hst _ _ _ HC.out.2 HC.out.1).mono ?_; rintro e zd ⟨rfl, bzd⟩; have HE := hide (HP.out.trans ((HC.out.2.trans (bzd.mono HC.out.2.size)).mono HP.out.size)); clear bzd; dsimp only)
        | (go_at_call 22; refine hs1.mono ?_; rintro e zc ⟨a7, c7, rfl, re7, bzc⟩; have HC := hide (And.intro re7 bzc); clear re7 bzc; dsimp only)
        | (go_at_call 20; refine (num20 _ _).mono ?_; rintro e wz ⟨rfl, rfl⟩; dsimp only))
      go_ret
      exact ⟨rfl, HE.out⟩
end Go.Proofs.YtkkpdgfllnbigaaGreat.Tg
