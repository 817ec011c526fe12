/-
  The law JournalThree (16), walked.
-/
import Derived.Test.YtkkpdgfllnbigaaGreatJoThA
namespace Go.Proofs.YtkkpdgfllnbigaaGreat.Jo
open Go.RowKit Go.Shelf
set_option linter.unusedSimpArgs false
attribute [local go_sem] Oper.semAt_some

set_option maxHeartbeats 16000000 in
set_option maxRecDepth 100000 in
theorem three_walk {w : World} {oo oa ob : Option Addr} {co ca cb : Nat} (base a b : List El) (ho : Re w oo base) (ha : Re w oa a) (hb : Re w ob b) (so : ∀ x ∈ base, x.1.2.2.1.size ≤ 9223372036854775807) (sa : ∀ x ∈ a, x.1.2.2.1.size ≤ 9223372036854775807) (sb : ∀ x ∈ b, x.1.2.2.1.size ≤ 9223372036854775807) : Calls Tryz.prog 16 #[.slice oo base.length co, .slice oa a.length ca, .slice ob b.length cb] w fun e w' => e = .returned (.bool true) ∧ Below w.heap.size w w' := by
  obtain ⟨NO, hNO⟩ : ∃ N, N = base.length := ⟨_, rfl⟩
  obtain ⟨NA, hNA⟩ : ∃ N, N = a.length := ⟨_, rfl⟩
  obtain ⟨NB, hNB⟩ : ∃ N, N = b.length := ⟨_, rfl⟩
  have hkn : ∀ W, Calls Tryz.prog 84 #[] W fun e w' => e = .returned (.bool true) ∧ Below W.heap.size W w' := known84
  have hnm : ∀ (n : Int) W, Calls Tryz.prog 87 #[.int .i64 n] W fun e w' => e = .returned (.int .i64 n) ∧ Below W.heap.size W w' := fun n W => (jnum35 n W).mono fun e w' hh => ⟨hh.1, by rw [hh.2]; exact Below.refl _ _⟩
  have hmO : ∀ W, Below w.heap.size w W → NO ≤ 60 → Calls Tryz.prog 86 #[.slice oo NO co] W fun e w' => e = .returned (.bool (goodL base)) ∧ Below W.heap.size W w' := fun W hW h60 => by
    have := refMay14 (c := co) base (ho.below hW) (by omega) so
    rw [mayE_good base, ← hNO] at this
    exact this
  have hsO : ∀ W, Below w.heap.size w W → NO ≤ 60 → goodL base = true → Calls Tryz.prog 88 #[.slice oo NO co] W fun e w' => ∃ a1 c1, e = .returned (.slice a1 NO c1) ∧ Re w' a1 (srtE base) ∧ Below W.heap.size W w' := fun W hW h60 hg => by
    have := refSorted14 (c := co) base (ho.below hW) (by omega) (by rw [mayE_good]; exact hg)
    rw [← hNO] at this
    exact this.mono fun e w' ⟨a1, c1, h1, h2, h3⟩ => ⟨a1, c1, h1, h2.re, h3⟩
  have hfO : ∀ W, Below w.heap.size w W → NO ≤ 60 → goodL base = true → Calls Tryz.prog 85 #[.slice oo NO co] W fun e w' => ∃ t pt, t.ptr = .pointer pt ∧ e = .returned (.tuple #[.agg #[.pointer pt], .int .i64 0]) ∧ Mg w' t ∧ (mayL t.list = true ∧ elsL t.list = srtE base ∧ t.n ≤ 60 ∧ t.over W.heap.size) ∧ Below W.heap.size W w' := fun W hW h60 hg => by
    have := ofG (c := co) base (ho.below hW) (by omega) hg
    rw [← hNO] at this
    exact this
  have hmA : ∀ W, Below w.heap.size w W → NA ≤ 60 → Calls Tryz.prog 86 #[.slice oa NA ca] W fun e w' => e = .returned (.bool (goodL a)) ∧ Below W.heap.size W w' := fun W hW h60 => by
    have := refMay14 (c := ca) a (ha.below hW) (by omega) sa
    rw [mayE_good a, ← hNA] at this
    exact this
  have hsA : ∀ W, Below w.heap.size w W → NA ≤ 60 → goodL a = true → Calls Tryz.prog 88 #[.slice oa NA ca] W fun e w' => ∃ a1 c1, e = .returned (.slice a1 NA c1) ∧ Re w' a1 (srtE a) ∧ Below W.heap.size W w' := fun W hW h60 hg => by
    have := refSorted14 (c := ca) a (ha.below hW) (by omega) (by rw [mayE_good]; exact hg)
    rw [← hNA] at this
    exact this.mono fun e w' ⟨a1, c1, h1, h2, h3⟩ => ⟨a1, c1, h1, h2.re, h3⟩
  have hfA : ∀ W, Below w.heap.size w W → NA ≤ 60 → goodL a = true → Calls Tryz.prog 85 #[.slice oa NA ca] W fun e w' => ∃ t pt, t.ptr = .pointer pt ∧ e = .returned (.tuple #[.agg #[.pointer pt], .int .i64 0]) ∧ Mg w' t ∧ (mayL t.list = true ∧ elsL t.list = srtE a ∧ t.n ≤ 60 ∧ t.over W.heap.size) ∧ Below W.heap.size W w' := fun W hW h60 hg => by
    have := ofG (c := ca) a (ha.below hW) (by omega) hg
    rw [← hNA] at this
    exact this
  have hmB : ∀ W, Below w.heap.size w W → NB ≤ 60 → Calls Tryz.prog 86 #[.slice ob NB cb] W fun e w' => e = .returned (.bool (goodL b)) ∧ Below W.heap.size W w' := fun W hW h60 => by
    have := refMay14 (c := cb) b (hb.below hW) (by omega) sb
    rw [mayE_good b, ← hNB] at this
    exact this
  have hsB : ∀ W, Below w.heap.size w W → NB ≤ 60 → goodL b = true → Calls Tryz.prog 88 #[.slice ob NB cb] W fun e w' => ∃ a1 c1, e = .returned (.slice a1 NB c1) ∧ Re w' a1 (srtE b) ∧ Below W.heap.size W w' := fun W hW h60 hg => by
    have := refSorted14 (c := cb) b (hb.below hW) (by omega) (by rw [mayE_good]; exact hg)
    rw [← hNB] at this
    exact this.mono fun e w' ⟨a1, c1, h1, h2, h3⟩ => ⟨a1, c1, h1, h2.re, h3⟩
  have hfB : ∀ W, Below w.heap.size w W → NB ≤ 60 → goodL b = true → Calls Tryz.prog 85 #[.slice ob NB cb] W fun e w' => ∃ t pt, t.ptr = .pointer pt ∧ e = .returned (.tuple #[.agg #[.pointer pt], .int .i64 0]) ∧ Mg w' t ∧ (mayL t.list = true ∧ elsL t.list = srtE b ∧ t.n ≤ 60 ∧ t.over W.heap.size) ∧ Below W.heap.size W w' := fun W hW h60 hg => by
    have := ofG (c := cb) b (hb.below hW) (by omega) hg
    rw [← hNB] at this
    exact this
  have HN := hide (And.intro hNO (And.intro hNA hNB))
  rw [← hNO, ← hNA, ← hNB]
  clear hNO hNA hNB ho ha hb so sa sb
  go_enter Tryz.func16, Tryz.ntmps16
  go_upto_region 3 with (go_at_call 84; refine (hkn _).mono ?_; rintro e w1 ⟨rfl, b1⟩; have H1 := hide b1; clear b1; dsimp only)
  go_cut [57] (fun v57 wc => ∃ B : Bool, v57 = .bool B ∧ Hid ((B = false → NO ≤ 60 ∧ NA ≤ 60 ∧ NB ≤ 60 ∧ goodL base = true ∧ goodL a = true ∧ goodL b = true) ∧ Below w.heap.size w wc))
  case first =>
    by_cases n0 : 60 < NO
    · have z0 : (60 : Int) < (NO : Int) := by omega
      have y0 : decide (60 < NO) = true := by simpa using n0
      go_wp2
      go_meet
      exact ⟨true, rfl, hide ⟨fun h => (by cases h), H1.out⟩⟩
    · have z0 : ¬ (60 : Int) < (NO : Int) := by omega
      have y0 : decide (60 < NO) = false := by simpa using n0
      by_cases n1 : 60 < NA
      · have z1 : (60 : Int) < (NA : Int) := by omega
        have y1 : decide (60 < NA) = true := by simpa using n1
        go_wp2
        go_meet
        exact ⟨true, rfl, hide ⟨fun h => (by cases h), H1.out⟩⟩
      · have z1 : ¬ (60 : Int) < (NA : Int) := by omega
        have y1 : decide (60 < NA) = false := by simpa using n1
        by_cases n2 : 60 < NB
        · have z2 : (60 : Int) < (NB : Int) := by omega
          have y2 : decide (60 < NB) = true := by simpa using n2
          go_wp2
          go_meet
          exact ⟨true, rfl, hide ⟨fun h => (by cases h), H1.out⟩⟩
        · have z2 : ¬ (60 : Int) < (NB : Int) := by omega
          have y2 : decide (60 < NB) = false := by simpa using n2
          have kO := fun W hW => hmO W hW (by omega)
          have kA := fun W hW => hmA W hW (by omega)
          have kB := fun W hW => hmB W hW (by omega)
          clear hmO hmA hmB
          obtain ⟨GO, hGO⟩ : ∃ q, q = goodL base := ⟨_, rfl⟩
          obtain ⟨GA, hGA⟩ : ∃ q, q = goodL a := ⟨_, rfl⟩
          obtain ⟨GB, hGB⟩ : ∃ q, q = goodL b := ⟨_, rfl⟩
          rw [← hGO] at kO
          rw [← hGA] at kA
          rw [← hGB] at kB
          have HG := hide (And.intro hGO (And.intro hGA hGB))
          clear hGO hGA hGB
          cases GO with
          | false =>
            go_wp2_with (first
              | (go_at_call 86; refine (kO _ H1.out).mono ?_; rintro e za ⟨rfl, bza⟩; have HA1 := hide (H1.out.trans (bza.mono H1.out.size)); clear bza; dsimp only))
            go_meet
            exact ⟨true, rfl, hide ⟨fun h => (by cases h), HA1.out⟩⟩
          | true =>
            cases GA with
            | false =>
              go_wp2_with (first
                | (go_at_call 86; refine (kA _ HA1.out).mono ?_; rintro e zb ⟨rfl, bzb⟩; have HA2 := hide (HA1.out.trans (bzb.mono HA1.out.size)); clear bzb; dsimp only)
                | (go_at_call 86; refine (kO _ H1.out).mono ?_; rintro e za ⟨rfl, bza⟩; have HA1 := hide (H1.out.trans (bza.mono H1.out.size)); clear bza; dsimp only))
              go_meet
              exact ⟨true, rfl, hide ⟨fun h => (by cases h), HA2.out⟩⟩
            | true =>
              cases GB with
              | false =>
                go_wp2_with (first
                  | (go_at_call 86; refine (kB _ HA2.out).mono ?_; rintro e zc ⟨rfl, bzc⟩; have HA3 := hide (HA2.out.trans (bzc.mono HA2.out.size)); clear bzc; dsimp only)
                  | (go_at_call 86; refine (kA _ HA1.out).mono ?_; rintro e zb ⟨rfl, bzb⟩; have HA2 := hide (HA1.out.trans (bzb.mono HA1.out.size)); clear bzb; dsimp only)
                  | (go_at_call 86; refine (kO _ H1.out).mono ?_; rintro e za ⟨rfl, bza⟩; have HA1 := hide (H1.out.trans (bza.mono H1.out.size)); clear bza; dsimp only))
                go_meet
                exact ⟨true, rfl, hide ⟨fun h => (by cases h), HA3.out⟩⟩
              | true =>
                go_wp2_with (first
                  | (go_at_call 86; refine (kB _ HA2.out).mono ?_; rintro e zc ⟨rfl, bzc⟩; have HA3 := hide (HA2.out.trans (bzc.mono HA2.out.size)); clear bzc; dsimp only)
                  | (go_at_call 86; refine (kA _ HA1.out).mono ?_; rintro e zb ⟨rfl, bzb⟩; have HA2 := hide (HA1.out.trans (bzb.mono HA1.out.size)); clear bzb; dsimp only)
                  | (go_at_call 86; refine (kO _ H1.out).mono ?_; rintro e za ⟨rfl, bza⟩; have HA1 := hide (H1.out.trans (bza.mono H1.out.size)); clear bza; dsimp only))
                go_meet
                exact ⟨false, rfl, hide ⟨fun _ => ⟨by omega, by omega, by omega, HG.out.1.symm, HG.out.2.1.symm, HG.out.2.2.symm⟩, HA3.out⟩⟩
  case rest =>
    obtain ⟨B, rfl, HB⟩ := hcut
    clear hmO hmA hmB H1
    cases B with
    | true =>
      go_wp2
      go_ret
      exact ⟨rfl, HB.out.2⟩
    | false =>
      obtain ⟨⟨nO, nA, nB, gO, gA, gB⟩, bw⟩ := (And.intro (HB.out.1 rfl) HB.out.2 : _ ∧ _)
      replace hsO := fun W hW => hsO W hW nO gO
      replace hsA := fun W hW => hsA W hW nA gA
      replace hsB := fun W hW => hsB W hW nB gB
      replace hfO := fun W hW => hfO W hW nO gO
      replace hfA := fun W hW => hfA W hW nA gA
      replace hfB := fun W hW => hfB W hW nB gB
      have HL := hide (And.intro nO (And.intro nA (And.intro nB (And.intro gO (And.intro gA gB)))))
      have H1 := hide bw
      clear nO nA nB gO gA gB bw HB
      go_upto_region 6 with (first
        | (go_at_call 88; refine (hsB _ H3.out.2.2).mono ?_; rintro e w4 ⟨a3, c3, rfl, r3, b3⟩; have H4 := hide (And.intro (H3.out.1.below b3) (And.intro (H3.out.2.1.below b3) (And.intro r3 (H3.out.2.2.trans (b3.mono H3.out.2.2.size))))); clear r3 b3; dsimp only)
        | (go_at_call 88; refine (hsA _ H2.out.2).mono ?_; rintro e w3 ⟨a2, c2, rfl, r2, b2⟩; have H3 := hide (And.intro (H2.out.1.below b2) (And.intro r2 (H2.out.2.trans (b2.mono H2.out.2.size)))); clear r2 b2; dsimp only)
        | (go_at_call 88; refine (hsO _ H1.out).mono ?_; rintro e w2 ⟨a1, c1, rfl, r1, b1⟩; have H2 := hide (And.intro r1 (H1.out.trans (b1.mono H1.out.size))); clear r1 b1; dsimp only))
      clear hsO hsA hsB H1 H2 H3
      have HP := H4
      clear H4
      go_upto_region 7 with (go_at_call 85; refine (hfO _ HP.out.2.2.2).mono ?_; rintro e w5 ⟨tx, px, hpt, rfl, mg, hfa, b1⟩; have Hc := hide (And.intro hpt (And.intro mg (And.intro hfa b1))); clear hpt mg hfa b1; dsimp only)
      obtain ⟨hpt, mg, hfa, bb⟩ := Hc.out
      obtain ⟨HXb, hHXb⟩ : ∃ q, q = w5.heap.size := ⟨_, rfl⟩
      obtain ⟨W5, hW5⟩ : ∃ q, q = w5.alloc (.cells #[.pointer px] 27) := ⟨_, rfl⟩
      have bW : Below w5.heap.size w5 W5 := by rw [hW5]; exact (Below.refl _ w5).alloc (Nat.le_refl _) _
      have bx : Boxd W5 HXb px tx := ⟨by rw [hW5, hHXb]; exact heap_alloc_new w5 _, hpt, mg.below bW⟩
      have bZ := bb.trans (bW.mono bb.size)
      have HX := hide (And.intro bx hfa)
      replace HP := hide (And.intro (HP.out.1.below bZ) (And.intro (HP.out.2.1.below bZ) (And.intro (HP.out.2.2.1.below bZ) (HP.out.2.2.2.trans (bZ.mono HP.out.2.2.2.size)))))
      rw [← hW5, ← hHXb]
      clear hpt mg hfa bb hHXb hW5 bW bx bZ Hc
      clear hfO
      go_upto_region 8 with (go_at_call 85; refine (hfA _ HP.out.2.2.2).mono ?_; rintro e w6 ⟨ty, py, hpt, rfl, mg, hfa, b1⟩; have Hc := hide (And.intro hpt (And.intro mg (And.intro hfa b1))); clear hpt mg hfa b1; dsimp only)
      obtain ⟨hpt, mg, hfa, bb⟩ := Hc.out
      obtain ⟨HYb, hHYb⟩ : ∃ q, q = w6.heap.size := ⟨_, rfl⟩
      obtain ⟨W6, hW6⟩ : ∃ q, q = w6.alloc (.cells #[.pointer py] 27) := ⟨_, rfl⟩
      have bW : Below w6.heap.size w6 W6 := by rw [hW6]; exact (Below.refl _ w6).alloc (Nat.le_refl _) _
      have bx : Boxd W6 HYb py ty := ⟨by rw [hW6, hHYb]; exact heap_alloc_new w6 _, hpt, mg.below bW⟩
      have bZ := bb.trans (bW.mono bb.size)
      have HAY : Hid (Pm.Apart tx ty) := hide (Pm.Apart.of_over HX.out.1.2.2.inn hfa.2.2.2)
      have HY := hide (And.intro bx hfa)
      replace HX := hide (And.intro (HX.out.1.below bZ) HX.out.2)
      replace HP := hide (And.intro (HP.out.1.below bZ) (And.intro (HP.out.2.1.below bZ) (And.intro (HP.out.2.2.1.below bZ) (HP.out.2.2.2.trans (bZ.mono HP.out.2.2.2.size)))))
      rw [← hW6, ← hHYb]
      clear hpt mg hfa bb hHYb hW6 bW bx bZ Hc
      clear hfA
      go_upto_region 9 with (go_at_call 85; refine (hfB _ HP.out.2.2.2).mono ?_; rintro e w7 ⟨tz, pz, hpt, rfl, mg, hfa, b1⟩; have Hc := hide (And.intro hpt (And.intro mg (And.intro hfa b1))); clear hpt mg hfa b1; dsimp only)
      obtain ⟨hpt, mg, hfa, bb⟩ := Hc.out
      obtain ⟨HZb, hHZb⟩ : ∃ q, q = w7.heap.size := ⟨_, rfl⟩
      obtain ⟨W7, hW7⟩ : ∃ q, q = w7.alloc (.cells #[.pointer pz] 27) := ⟨_, rfl⟩
      have bW : Below w7.heap.size w7 W7 := by rw [hW7]; exact (Below.refl _ w7).alloc (Nat.le_refl _) _
      have bx : Boxd W7 HZb pz tz := ⟨by rw [hW7, hHZb]; exact heap_alloc_new w7 _, hpt, mg.below bW⟩
      have bZ := bb.trans (bW.mono bb.size)
      have HAZ : Hid (Pm.Apart tx tz) := hide (Pm.Apart.of_over HX.out.1.2.2.inn hfa.2.2.2)
      have HZ := hide (And.intro bx hfa)
      replace HX := hide (And.intro (HX.out.1.below bZ) HX.out.2)
      replace HY := hide (And.intro (HY.out.1.below bZ) HY.out.2)
      replace HP := hide (And.intro (HP.out.1.below bZ) (And.intro (HP.out.2.1.below bZ) (And.intro (HP.out.2.2.1.below bZ) (HP.out.2.2.2.trans (bZ.mono HP.out.2.2.2.size)))))
      rw [← hW7, ← hHZb]
      clear hpt mg hfa bb hHZb hW7 bW bx bZ Hc
      clear hfB
      have cX := HX.out.1.cell
      have cY := HY.out.1.cell
      have cZ := HZ.out.1.cell
      have ht1 : Calls Tryz.prog 96 #[.agg #[.pointer px], .agg #[.pointer py], .agg #[.pointer pz]] W7 fun e w' => ∃ t pt, t.ptr = .pointer pt ∧ e = .returned (.tuple #[.agg #[.pointer pt], .int .i64 0]) ∧ Mg w' t ∧ (mayL t.list = true ∧ elsL t.list = togL (srtE base) (srtE a) (srtE b)) ∧ Below W7.heap.size W7 w' := by
        refine (three_apart HX.out.1.2.2 HX.out.1.2.1 HY.out.1.2.2 HY.out.1.2.1 HZ.out.1.2.2 HZ.out.1.2.1 HX.out.2.1 HY.out.2.1 HZ.out.2.1 HAY.out (by have := HY.out.2.2.2.1; have := HZ.out.2.2.2.1; omega)).mono (fun e w' hh => ?_)
        obtain ⟨t4, p4, h1, h2, h3, h4, h5⟩ := hh
        have ht := tog_els HX.out.2.1 HY.out.2.1 HZ.out.2.1 HX.out.1.2.2.srt HY.out.1.2.2.srt HZ.out.1.2.2.srt h3.srt h4
        rw [HX.out.2.2.1, HY.out.2.2.1, HZ.out.2.2.1] at ht
        exact ⟨t4, p4, h1, h2, h3, ht, h5⟩
      go_upto_region 10 with (go_at_call 96; refine (ht1).mono ?_; rintro e w8 ⟨tm, pm, hpt, rfl, mg, hfa, b1⟩; have Hc := hide (And.intro hpt (And.intro mg (And.intro hfa b1))); clear hpt mg hfa b1; dsimp only)
      obtain ⟨hpt, mg, hfa, bb⟩ := Hc.out
      obtain ⟨HMb, hHMb⟩ : ∃ q, q = w8.heap.size := ⟨_, rfl⟩
      obtain ⟨W8, hW8⟩ : ∃ q, q = w8.alloc (.cells #[.pointer pm] 27) := ⟨_, rfl⟩
      have bW : Below w8.heap.size w8 W8 := by rw [hW8]; exact (Below.refl _ w8).alloc (Nat.le_refl _) _
      have bx : Boxd W8 HMb pm tm := ⟨by rw [hW8, hHMb]; exact heap_alloc_new w8 _, hpt, mg.below bW⟩
      have bZ := bb.trans (bW.mono bb.size)
      have HM := hide (And.intro bx hfa)
      replace HX := hide (And.intro (HX.out.1.below bZ) HX.out.2)
      replace HY := hide (And.intro (HY.out.1.below bZ) HY.out.2)
      replace HZ := hide (And.intro (HZ.out.1.below bZ) HZ.out.2)
      replace HP := hide (And.intro (HP.out.1.below bZ) (And.intro (HP.out.2.1.below bZ) (And.intro (HP.out.2.2.1.below bZ) (HP.out.2.2.2.trans (bZ.mono HP.out.2.2.2.size)))))
      rw [← hW8, ← hHMb]
      clear hpt mg hfa bb hHMb hW8 bW bx bZ Hc
      clear ht1 cX cY cZ
      have cX := HX.out.1.cell
      have cY := HY.out.1.cell
      have cZ := HZ.out.1.cell
      have ht2 : Calls Tryz.prog 96 #[.agg #[.pointer px], .agg #[.pointer pz], .agg #[.pointer py]] W8 fun e w' => ∃ t pt, t.ptr = .pointer pt ∧ e = .returned (.tuple #[.agg #[.pointer pt], .int .i64 0]) ∧ Mg w' t ∧ (mayL t.list = true ∧ elsL t.list = togL (srtE base) (srtE b) (srtE a)) ∧ Below W8.heap.size W8 w' := by
        refine (three_apart HX.out.1.2.2 HX.out.1.2.1 HZ.out.1.2.2 HZ.out.1.2.1 HY.out.1.2.2 HY.out.1.2.1 HX.out.2.1 HZ.out.2.1 HY.out.2.1 HAZ.out (by have := HZ.out.2.2.2.1; have := HY.out.2.2.2.1; omega)).mono (fun e w' hh => ?_)
        obtain ⟨t4, p4, h1, h2, h3, h4, h5⟩ := hh
        have ht := tog_els HX.out.2.1 HZ.out.2.1 HY.out.2.1 HX.out.1.2.2.srt HZ.out.1.2.2.srt HY.out.1.2.2.srt h3.srt h4
        rw [HX.out.2.2.1, HZ.out.2.2.1, HY.out.2.2.1] at ht
        exact ⟨t4, p4, h1, h2, h3, ht, h5⟩
      go_upto_region 11 with (go_at_call 96; refine (ht2).mono ?_; rintro e w9 ⟨tn, pn, hpt, rfl, mg, hfa, b1⟩; have Hc := hide (And.intro hpt (And.intro mg (And.intro hfa b1))); clear hpt mg hfa b1; dsimp only)
      obtain ⟨hpt, mg, hfa, bb⟩ := Hc.out
      obtain ⟨HNNb, hHNNb⟩ : ∃ q, q = w9.heap.size := ⟨_, rfl⟩
      obtain ⟨W9, hW9⟩ : ∃ q, q = w9.alloc (.cells #[.pointer pn] 27) := ⟨_, rfl⟩
      have bW : Below w9.heap.size w9 W9 := by rw [hW9]; exact (Below.refl _ w9).alloc (Nat.le_refl _) _
      have bx : Boxd W9 HNNb pn tn := ⟨by rw [hW9, hHNNb]; exact heap_alloc_new w9 _, hpt, mg.below bW⟩
      have bZ := bb.trans (bW.mono bb.size)
      have HNN := hide (And.intro bx hfa)
      replace HX := hide (And.intro (HX.out.1.below bZ) HX.out.2)
      replace HY := hide (And.intro (HY.out.1.below bZ) HY.out.2)
      replace HZ := hide (And.intro (HZ.out.1.below bZ) HZ.out.2)
      replace HM := hide (And.intro (HM.out.1.below bZ) HM.out.2)
      replace HP := hide (And.intro (HP.out.1.below bZ) (And.intro (HP.out.2.1.below bZ) (And.intro (HP.out.2.2.1.below bZ) (HP.out.2.2.2.trans (bZ.mono HP.out.2.2.2.size)))))
      rw [← hW9, ← hHNNb]
      clear hpt mg hfa bb hHNNb hW9 bW bx bZ Hc
      clear ht2 cX cY cZ HZ HAZ
      go_upto_region 13 with (go_at_call 87; refine (jnum35 _ _).mono ?_; rintro e wz ⟨rfl, rfl⟩; dsimp only)
      have cM := HM.out.1.cell
      have he1 := elementsJ HM.out.1.2.2 HM.out.1.2.1
      rw [HM.out.2.1, if_pos rfl, HM.out.2.2] at he1
      obtain ⟨L1, hL1⟩ : ∃ q, q = togL (srtE base) (srtE a) (srtE b) := ⟨_, rfl⟩
      obtain ⟨L2, hL2⟩ : ∃ q, q = togL (srtE base) (srtE b) (srtE a) := ⟨_, rfl⟩
      obtain ⟨M1, hM1⟩ : ∃ q, q = L1.length := ⟨_, rfl⟩
      obtain ⟨M2, hM2⟩ : ∃ q, q = L2.length := ⟨_, rfl⟩
      rw [← hL1] at he1
      rw [← hM1] at he1
      have HE1 := hide (And.intro hL1 hM1)
      have HE2 := hide (And.intro hL2 hM2)
      clear hL1 hL2 hM1 hM2
      go_upto_region 14 with (go_at_call 97; refine he1.mono ?_; rintro e w10 ⟨a4, c4, rfl, oe, b1⟩; have Hc := hide (And.intro oe.re b1); clear oe b1; dsimp only)
      have bZ := Hc.out.2
      replace HX := hide (And.intro (HX.out.1.below bZ) HX.out.2)
      replace HY := hide (And.intro (HY.out.1.below bZ) HY.out.2)
      replace HNN := hide (And.intro (HNN.out.1.below bZ) HNN.out.2)
      replace HP := hide (And.intro (HP.out.1.below bZ) (And.intro (HP.out.2.1.below bZ) (And.intro (HP.out.2.2.1.below bZ) (HP.out.2.2.2.trans (bZ.mono HP.out.2.2.2.size)))))
      have HR1 := hide Hc.out.1
      clear bZ Hc he1 cM HM
      have cN := HNN.out.1.cell
      have he2 := elementsJ HNN.out.1.2.2 HNN.out.1.2.1
      rw [HNN.out.2.1, if_pos rfl, HNN.out.2.2] at he2
      rw [← HE2.out.1] at he2
      rw [← HE2.out.2] at he2
      go_upto_region 15 with (go_at_call 97; refine he2.mono ?_; rintro e w11 ⟨a5, c5, rfl, oe, b1⟩; have Hc := hide (And.intro oe.re b1); clear oe b1; dsimp only)
      have bZ := Hc.out.2
      replace HX := hide (And.intro (HX.out.1.below bZ) HX.out.2)
      replace HY := hide (And.intro (HY.out.1.below bZ) HY.out.2)
      replace HP := hide (And.intro (HP.out.1.below bZ) (And.intro (HP.out.2.1.below bZ) (And.intro (HP.out.2.2.1.below bZ) (HP.out.2.2.2.trans (bZ.mono HP.out.2.2.2.size)))))
      replace HR1 := hide (HR1.out.below bZ)
      have HR2 := hide Hc.out.1
      clear bZ Hc he2 cN HNN
      have hok : ∀ (l : List El), goodL l = true → ∀ x ∈ srtE l, x.1.2.2.1.size ≤ 9223372036854775807 := fun l hg x hx => by
        have h1 : x ∈ l := (srtE_perm l).subset hx
        simp only [goodL, Bool.and_eq_true] at hg
        exact okEl_size (List.all_eq_true.1 hg.1 x h1)
      have hup : ∀ (l : List El), goodL l = true → UpE (srtE l) := fun l hg => srtE_up l (by
        have := mayE_good l
        rw [hg] at this
        simp only [mayE, Bool.and_eq_true, decide_eq_true_eq] at this
        exact this.2)
      have hr1 : ∀ W, Below w11.heap.size w11 W → Calls Tryz.prog 106 #[.slice a1 NO c1, .slice a2 NA c2, .slice a3 NB c3] W fun e w' => ∃ a9 c9, e = .returned (.slice a9 M1 c9) ∧ Re w' a9 L1 ∧ Below W.heap.size W w' := fun W hW => by
        have := refThree (co := c1) (ca := c2) (cb := c3) (HP.out.1.below hW) (HP.out.2.1.below hW) (HP.out.2.2.1.below hW) (by rw [srtE_len, ← HN.out.1]; have := HL.out.1; omega) (by rw [srtE_len, ← HN.out.2.1]; have := HL.out.2.1; omega) (by rw [srtE_len, ← HN.out.2.2]; have := HL.out.2.2.1; omega) (hup a HL.out.2.2.2.2.1) (hup b HL.out.2.2.2.2.2) (hok a HL.out.2.2.2.2.1)
        unfold ChgE at this
        rw [srtE_len, srtE_len, srtE_len, ← HN.out.1, ← HN.out.2.1, ← HN.out.2.2, ← HE1.out.1, ← HE1.out.2] at this
        exact this.mono fun e w' ⟨x1, x2, h1, h2, h3⟩ => ⟨x1, x2, h1, h2.re, h3⟩
      have hr2 : ∀ W, Below w11.heap.size w11 W → Calls Tryz.prog 106 #[.slice a1 NO c1, .slice a3 NB c3, .slice a2 NA c2] W fun e w' => ∃ a9 c9, e = .returned (.slice a9 M2 c9) ∧ Re w' a9 L2 ∧ Below W.heap.size W w' := fun W hW => by
        have := refThree (co := c1) (ca := c3) (cb := c2) (HP.out.1.below hW) (HP.out.2.2.1.below hW) (HP.out.2.1.below hW) (by rw [srtE_len, ← HN.out.1]; have := HL.out.1; omega) (by rw [srtE_len, ← HN.out.2.2]; have := HL.out.2.2.1; omega) (by rw [srtE_len, ← HN.out.2.1]; have := HL.out.2.1; omega) (hup b HL.out.2.2.2.2.2) (hup a HL.out.2.2.2.2.1) (hok b HL.out.2.2.2.2.2)
        unfold ChgE at this
        rw [srtE_len, srtE_len, srtE_len, ← HN.out.1, ← HN.out.2.1, ← HN.out.2.2, ← HE2.out.1, ← HE2.out.2] at this
        exact this.mono fun e w' ⟨x1, x2, h1, h2, h3⟩ => ⟨x1, x2, h1, h2.re, h3⟩
      have hlen : M1 ≤ 120 ∧ M2 ≤ 120 := by
        have e1 : M1 = _ := HE1.out.2.trans (congrArg List.length HE1.out.1)
        have e2 : M2 = _ := HE2.out.2.trans (congrArg List.length HE2.out.1)
        have h1 := tog_len (srtE base) (srtE a) (srtE b)
        have h2 := tog_len (srtE base) (srtE b) (srtE a)
        rw [srtE_len, srtE_len] at h1 h2
        have := HN.out.2.1; have := HN.out.2.2; have := HL.out.2.1; have := HL.out.2.2.1
        omega
      have hq1 : ∀ W a9 c9, Below w11.heap.size w11 W → Re W a9 L1 → Calls Tryz.prog 39 #[.slice a4 M1 c4, .slice a9 M1 c9] W fun e w' => e = .returned (.bool true) ∧ Below W.heap.size W w' := fun W a9 c9 hW hr => by
        have hl : L1.length ≤ 1000000 := by rw [← HE1.out.2]; omega
        have := sameEls_any (c := c4) (d := c9) (HR1.out.below hW) hr hl hl
        rw [← HE1.out.2, decide_eq_true rfl] at this
        exact this.mono (fun e w' ⟨he, n, hn⟩ => ⟨he, by rw [hn]; exact below_drew _ _⟩)
      have hq2 : ∀ W a9 c9, Below w11.heap.size w11 W → Re W a9 L2 → Calls Tryz.prog 39 #[.slice a5 M2 c5, .slice a9 M2 c9] W fun e w' => e = .returned (.bool true) ∧ Below W.heap.size W w' := fun W a9 c9 hW hr => by
        have hl : L2.length ≤ 1000000 := by rw [← HE2.out.2]; omega
        have := sameEls_any (c := c5) (d := c9) (HR2.out.below hW) hr hl hl
        rw [← HE2.out.2, decide_eq_true rfl] at this
        exact this.mono (fun e w' ⟨he, n, hn⟩ => ⟨he, by rw [hn]; exact below_drew _ _⟩)
      clear hok hup hlen
      go_upto_region 17 with (first
        | (go_at_call 39; refine (hq2 _ _ _ HE.out.2 HE.out.1).mono ?_; rintro e zf ⟨rfl, bzf⟩; have HZ := hide (HE.out.2.trans (bzf.mono HE.out.2.size)); clear bzf; dsimp only)
        | (go_at_call 106; refine (hr2 _ HD.out).mono ?_; rintro e ze ⟨a8, c8, rfl, re8, bze⟩; have HE := hide (And.intro re8 (HD.out.trans (bze.mono HD.out.size))); clear re8 bze; dsimp only)
        | (go_at_call 39; refine (hq1 _ _ _ HC.out.2 HC.out.1).mono ?_; rintro e zd ⟨rfl, bzd⟩; have HD := hide (HC.out.2.trans (bzd.mono HC.out.2.size)); clear bzd; dsimp only)
        | (go_at_call 106; refine (hr1 _ (Below.refl _ _)).mono ?_; rintro e zc ⟨a9, c9, rfl, re9, bzc⟩; have HC := hide (And.intro re9 bzc); clear re9 bzc; dsimp only)
        | (go_at_call 87; refine (jnum35 _ _).mono ?_; rintro e wz ⟨rfl, rfl⟩; dsimp only))
      clear hr1 hr2 hq1 hq2 HR1 HR2 HE1 HE2 HC HD HE
      replace HX := hide (And.intro (HX.out.1.below HZ.out) HX.out.2)
      replace HY := hide (And.intro (HY.out.1.below HZ.out) HY.out.2)
      replace HP := hide (And.intro (HP.out.1.below HZ.out) (And.intro (HP.out.2.1.below HZ.out) (And.intro (HP.out.2.2.1.below HZ.out) (HP.out.2.2.2.trans (HZ.out.mono HP.out.2.2.2.size)))))
      clear HZ
      generalize zf = W12 at *
      have cX := HX.out.1.cell
      have cY := HY.out.1.cell
      have ht3 : Calls Tryz.prog 96 #[.agg #[.pointer px], .agg #[.pointer py], .agg #[.pointer px]] W12 fun e w' => ∃ t pt, t.ptr = .pointer pt ∧ e = .returned (.tuple #[.agg #[.pointer pt], .int .i64 0]) ∧ Mg w' t ∧ (mayL t.list = true ∧ elsL t.list = srtE a) ∧ Below W12.heap.size W12 w' := by
        refine (three_apart HX.out.1.2.2 HX.out.1.2.1 HY.out.1.2.2 HY.out.1.2.1 HX.out.1.2.2 HX.out.1.2.1 HX.out.2.1 HY.out.2.1 HX.out.2.1 HAY.out (by have := HY.out.2.2.2.1; have := HX.out.2.2.2.1; omega)).mono (fun e w' hh => ?_)
        obtain ⟨t4, p4, h1, h2, h3, h4, h5⟩ := hh
        have hk : ∀ k, Pm.look k t4.list = Pm.look k ty.list := fun k => by rw [h4 k]; exact keeps_back _ _ (Pm.look_norm k _)
        have hmm := may_same h3.srt HY.out.1.2.2.srt HY.out.2.1 hk
        exact ⟨t4, p4, h1, h2, h3, ⟨hmm, by rw [lk_eq h3.srt HY.out.1.2.2.srt hmm HY.out.2.1 hk]; exact HY.out.2.2.1⟩, h5⟩
      go_upto_region 18 with (go_at_call 96; refine (ht3).mono ?_; rintro e w13 ⟨tu, pu, hpt, rfl, mg, hfa, b1⟩; have Hc := hide (And.intro hpt (And.intro mg (And.intro hfa b1))); clear hpt mg hfa b1; dsimp only)
      obtain ⟨hpt, mg, hfa, bb⟩ := Hc.out
      obtain ⟨HUb, hHUb⟩ : ∃ q, q = w13.heap.size := ⟨_, rfl⟩
      obtain ⟨W13, hW13⟩ : ∃ q, q = w13.alloc (.cells #[.pointer pu] 27) := ⟨_, rfl⟩
      have bW : Below w13.heap.size w13 W13 := by rw [hW13]; exact (Below.refl _ w13).alloc (Nat.le_refl _) _
      have bx : Boxd W13 HUb pu tu := ⟨by rw [hW13, hHUb]; exact heap_alloc_new w13 _, hpt, mg.below bW⟩
      have bZ := bb.trans (bW.mono bb.size)
      have HU := hide (And.intro bx hfa)
      replace HP := hide (And.intro (HP.out.1.below bZ) (And.intro (HP.out.2.1.below bZ) (And.intro (HP.out.2.2.1.below bZ) (HP.out.2.2.2.trans (bZ.mono HP.out.2.2.2.size)))))
      rw [← hW13, ← hHUb]
      clear hpt mg hfa bb hHUb hW13 bW bx bZ Hc
      clear ht3 cX cY HX HY HAY
      have cU := HU.out.1.cell
      have he3 := elementsJ HU.out.1.2.2 HU.out.1.2.1
      rw [HU.out.2.1, if_pos rfl, HU.out.2.2, srtE_len, ← HN.out.2.1] at he3
      go_upto_region 19 with (go_at_call 97; refine he3.mono ?_; rintro e w14 ⟨a6, c6, rfl, oe, b1⟩; have Hc := hide (And.intro oe.re b1); clear oe b1; dsimp only)
      have bZ := Hc.out.2
      replace HP := hide (And.intro (HP.out.1.below bZ) (And.intro (HP.out.2.1.below bZ) (And.intro (HP.out.2.2.1.below bZ) (HP.out.2.2.2.trans (bZ.mono HP.out.2.2.2.size)))))
      have HR3 := hide Hc.out.1
      clear bZ Hc he3 cU HU
      have hst : ∀ W, Below w14.heap.size w14 W → Calls Tryz.prog 107 #[.slice a6 NA c6, .slice a2 NA c2] W fun e w' => e = .returned (.bool true) ∧ Below W.heap.size W w' := fun W hW => by
        have := stamps_same (c := c6) (d := c2) (HR3.out.below hW) (HP.out.2.1.below hW) (by rw [srtE_len, ← HN.out.2.1]; have := HL.out.2.1; omega)
        rw [srtE_len, ← HN.out.2.1] at this
        exact this.mono (fun e w' ⟨he, n, hn⟩ => ⟨he, by rw [hn]; exact below_drew _ _⟩)
      go_wp2_with (first
        | (go_at_call 84; refine (hkn _).mono ?_; rintro e zd ⟨rfl, bzd⟩; have HE := hide (HC.out.trans (bzd.mono HC.out.size)); clear bzd; dsimp only)
        | (go_at_call 107; refine (hst _ (Below.refl _ _)).mono ?_; rintro e zc ⟨rfl, bzc⟩; have HC := hide (HP.out.2.2.2.trans (bzc.mono HP.out.2.2.2.size)); clear bzc; dsimp only)
        | (go_at_call 87; refine (jnum35 _ _).mono ?_; rintro e wz ⟨rfl, rfl⟩; dsimp only))
      go_ret
      exact ⟨rfl, HE.out⟩
end Go.Proofs.YtkkpdgfllnbigaaGreat.Jo
