/-
  The law JournalParts (14), walked.
-/
import Derived.Test.YtkkpdgfllnbigaaGreatMg23
import Derived.Test.YtkkpdgfllnbigaaGreatJoT
import Derived.BigCall
import Derived.BigGuard
import Derived.BigGuardPart
import Derived.BigRegion
namespace Go.Proofs.YtkkpdgfllnbigaaGreat.Jo
open Go.RowKit Go.Shelf
set_option linter.unusedSimpArgs false
set_option linter.unusedVariables false
attribute [local go_sem] Oper.semAt_some

set_option maxHeartbeats 16000000 in
set_option maxRecDepth 100000 in
theorem parts_walk {w : World} {oo oa ob : Option Addr} {co ca cb : Nat} (base a b : List El) (ho : Re w oo base) (ha : Re w oa a) (hb : Re w ob b) (so : ∀ x ∈ base, x.1.2.2.1.size ≤ 9223372036854775807) (sa : ∀ x ∈ a, x.1.2.2.1.size ≤ 9223372036854775807) (sb : ∀ x ∈ b, x.1.2.2.1.size ≤ 9223372036854775807) : Calls Tryz.prog 14 #[.slice oo base.length co, .slice oa a.length ca, .slice ob b.length cb] w fun e w' => e = .returned (.bool true) ∧ Below w.heap.size w w' := by
  obtain ⟨NO, hNO⟩ : ∃ N, N = base.length := ⟨_, rfl⟩
  obtain ⟨NA, hNA⟩ : ∃ N, N = a.length := ⟨_, rfl⟩
  obtain ⟨NB, hNB⟩ : ∃ N, N = b.length := ⟨_, rfl⟩
  have hkn : ∀ W, Calls Tryz.prog 84 #[] W fun e w' => e = .returned (.bool true) ∧ Below W.heap.size W w' := known84
  have hmO : ∀ W, Below w.heap.size w W → NO ≤ 60 → Calls Tryz.prog 86 #[.slice oo NO co] W fun e w' => e = .returned (.bool (goodL base)) ∧ Below W.heap.size W w' := fun W hW h60 => by
    have := refMay14 (c := co) base (ho.below hW) (by omega) so
    rw [mayE_good base, ← hNO] at this
    exact this
  have hfO : ∀ W, Below w.heap.size w W → NO ≤ 60 → goodL base = true → Calls Tryz.prog 85 #[.slice oo NO co] W fun e w' => ∃ t pt, t.ptr = .pointer pt ∧ e = .returned (.tuple #[.agg #[.pointer pt], .int .i64 0]) ∧ Mg w' t ∧ (mayL t.list = true ∧ elsL t.list = srtE base ∧ t.n ≤ 60 ∧ t.over W.heap.size) ∧ Below W.heap.size W w' := fun W hW h60 hg => by
    have := ofG (c := co) base (ho.below hW) (by omega) hg
    rw [← hNO] at this
    exact this
  have hmA : ∀ W, Below w.heap.size w W → NA ≤ 60 → Calls Tryz.prog 86 #[.slice oa NA ca] W fun e w' => e = .returned (.bool (goodL a)) ∧ Below W.heap.size W w' := fun W hW h60 => by
    have := refMay14 (c := ca) a (ha.below hW) (by omega) sa
    rw [mayE_good a, ← hNA] at this
    exact this
  have hfA : ∀ W, Below w.heap.size w W → NA ≤ 60 → goodL a = true → Calls Tryz.prog 85 #[.slice oa NA ca] W fun e w' => ∃ t pt, t.ptr = .pointer pt ∧ e = .returned (.tuple #[.agg #[.pointer pt], .int .i64 0]) ∧ Mg w' t ∧ (mayL t.list = true ∧ elsL t.list = srtE a ∧ t.n ≤ 60 ∧ t.over W.heap.size) ∧ Below W.heap.size W w' := fun W hW h60 hg => by
    have := ofG (c := ca) a (ha.below hW) (by omega) hg
    rw [← hNA] at this
    exact this
  have hmB : ∀ W, Below w.heap.size w W → NB ≤ 60 → Calls Tryz.prog 86 #[.slice ob NB cb] W fun e w' => e = .returned (.bool (goodL b)) ∧ Below W.heap.size W w' := fun W hW h60 => by
    have := refMay14 (c := cb) b (hb.below hW) (by omega) sb
    rw [mayE_good b, ← hNB] at this
    exact this
  have hfB : ∀ W, Below w.heap.size w W → NB ≤ 60 → goodL b = true → Calls Tryz.prog 85 #[.slice ob NB cb] W fun e w' => ∃ t pt, t.ptr = .pointer pt ∧ e = .returned (.tuple #[.agg #[.pointer pt], .int .i64 0]) ∧ Mg w' t ∧ (mayL t.list = true ∧ elsL t.list = srtE b ∧ t.n ≤ 60 ∧ t.over W.heap.size) ∧ Below W.heap.size W w' := fun W hW h60 hg => by
    have := ofG (c := cb) b (hb.below hW) (by omega) hg
    rw [← hNB] at this
    exact this
  have pAB : ∀ W, Below w.heap.size w W → NA ≤ 60 → NB ≤ 60 → Calls Tryz.prog 94 #[.slice oa NA ca, .slice ob NB cb] W fun e w' => e = .returned (.bool (subB a b)) ∧ Below W.heap.size W w' := fun W hW n1 n2 => by
    have := part94 (c := ca) (d := cb) (ha.below hW) (hb.below hW) (by omega) (by omega)
    rw [← hNA, ← hNB] at this
    exact this
  have pOA : ∀ W, Below w.heap.size w W → NO ≤ 60 → NA ≤ 60 → Calls Tryz.prog 94 #[.slice oo NO co, .slice oa NA ca] W fun e w' => e = .returned (.bool (subB base a)) ∧ Below W.heap.size W w' := fun W hW n1 n2 => by
    have := part94 (c := co) (d := ca) (ho.below hW) (ha.below hW) (by omega) (by omega)
    rw [← hNO, ← hNA] at this
    exact this
  have pOB : ∀ W, Below w.heap.size w W → NO ≤ 60 → NB ≤ 60 → Calls Tryz.prog 94 #[.slice oo NO co, .slice ob NB cb] W fun e w' => e = .returned (.bool (subB base b)) ∧ Below W.heap.size W w' := fun W hW n1 n2 => by
    have := part94 (c := co) (d := cb) (ho.below hW) (hb.below hW) (by omega) (by omega)
    rw [← hNO, ← hNB] at this
    exact this
  have hsg : ∀ W, Below w.heap.size w W → NA ≤ 60 → NB ≤ 60 → Calls Tryz.prog 95 #[.slice oa NA ca, .slice ob NB cb] W fun e w' => e = .returned (.bool (sglB a b)) ∧ Below W.heap.size W w' := fun W hW n1 n2 => by
    have := single95 (c := ca) (d := cb) (ha.below hW) (hb.below hW) (by omega) (by omega)
    rw [← hNA, ← hNB] at this
    exact this
  have hsA : ∀ (x : El) W, Below w.heap.size w W → NA ≤ 60 → Calls Tryz.prog 98 #[.slice oa NA ca, ev x] W fun e w' => e = .returned (.bool (inB x a)) ∧ Below W.heap.size W w' := fun x W hW n1 => by
    have := has98 (c := ca) x (ha.below hW) (by omega)
    rw [← hNA] at this
    exact this
  have hsB : ∀ (x : El) W, Below w.heap.size w W → NB ≤ 60 → Calls Tryz.prog 98 #[.slice ob NB cb, ev x] W fun e w' => e = .returned (.bool (inB x b)) ∧ Below W.heap.size W w' := fun x W hW n1 => by
    have := has98 (c := cb) x (hb.below hW) (by omega)
    rw [← hNB] at this
    exact this
  rw [← hNO, ← hNA, ← hNB]
  clear hNO hNA hNB ho ha hb so sa sb
  go_enter Tryz.func14, Tryz.ntmps14
  go_upto_region 3 with (go_at_call 84; refine (hkn _).mono ?_; rintro e w1 ⟨rfl, b1⟩; have H1 := hide b1; clear b1; dsimp only)
  go_cut [47] (fun v47 wc => ∃ B : Bool, v47 = .bool B ∧ Hid ((B = false → NO ≤ 60 ∧ NA ≤ 60 ∧ NB ≤ 60 ∧ goodL base = true ∧ goodL a = true ∧ goodL b = true) ∧ Below w.heap.size w wc))
  case first =>
    clear hfO hfA hfB pAB pOA pOB hsg hsA hsB
    by_cases n0 : 60 < NO
    · have z0 : (60 : Int) < (NO : Int) := by omega
      have y0 : decide (60 < NO) = true := by simpa using n0
      go_wp2
      go_meet
      exact ⟨true, rfl, hide ⟨fun h => (by cases h), H1.out⟩⟩
    · have z0 : ¬ (60 : Int) < (NO : Int) := by omega
      have y0 : decide (60 < NO) = false := by simpa using n0
      by_cases n1 : 60 < NA
      · have z1 : (60 : Int) < (NA : Int) := by omega
        have y1 : decide (60 < NA) = true := by simpa using n1
        go_wp2
        go_meet
        exact ⟨true, rfl, hide ⟨fun h => (by cases h), H1.out⟩⟩
      · have z1 : ¬ (60 : Int) < (NA : Int) := by omega
        have y1 : decide (60 < NA) = false := by simpa using n1
        by_cases n2 : 60 < NB
        · have z2 : (60 : Int) < (NB : Int) := by omega
          have y2 : decide (60 < NB) = true := by simpa using n2
          go_wp2
          go_meet
          exact ⟨true, rfl, hide ⟨fun h => (by cases h), H1.out⟩⟩
        · have z2 : ¬ (60 : Int) < (NB : Int) := by omega
          have y2 : decide (60 < NB) = false := by simpa using n2
          have kO := fun W hW => hmO W hW (by omega)
          have kA := fun W hW => hmA W hW (by omega)
          have kB := fun W hW => hmB W hW (by omega)
          clear hmO hmA hmB
          obtain ⟨GO, hGO⟩ : ∃ q, q = goodL base := ⟨_, rfl⟩
          obtain ⟨GA, hGA⟩ : ∃ q, q = goodL a := ⟨_, rfl⟩
          obtain ⟨GB, hGB⟩ : ∃ q, q = goodL b := ⟨_, rfl⟩
          rw [← hGO] at kO
          rw [← hGA] at kA
          rw [← hGB] at kB
          have HG := hide (And.intro hGO (And.intro hGA hGB))
          clear hGO hGA hGB
          cases GO with
          | false =>
            go_wp2_with (first
              | (go_at_call 86; refine (kO _ H1.out).mono ?_; rintro e za ⟨rfl, bza⟩; have HA1 := hide (H1.out.trans (bza.mono H1.out.size)); clear bza; dsimp only))
            go_meet
            exact ⟨true, rfl, hide ⟨fun h => (by cases h), HA1.out⟩⟩
          | true =>
            cases GA with
            | false =>
              go_wp2_with (first
                | (go_at_call 86; refine (kA _ HA1.out).mono ?_; rintro e zb ⟨rfl, bzb⟩; have HA2 := hide (HA1.out.trans (bzb.mono HA1.out.size)); clear bzb; dsimp only)
                | (go_at_call 86; refine (kO _ H1.out).mono ?_; rintro e za ⟨rfl, bza⟩; have HA1 := hide (H1.out.trans (bza.mono H1.out.size)); clear bza; dsimp only))
              go_meet
              exact ⟨true, rfl, hide ⟨fun h => (by cases h), HA2.out⟩⟩
            | true =>
              cases GB with
              | false =>
                go_wp2_with (first
                  | (go_at_call 86; refine (kB _ HA2.out).mono ?_; rintro e zc ⟨rfl, bzc⟩; have HA3 := hide (HA2.out.trans (bzc.mono HA2.out.size)); clear bzc; dsimp only)
                  | (go_at_call 86; refine (kA _ HA1.out).mono ?_; rintro e zb ⟨rfl, bzb⟩; have HA2 := hide (HA1.out.trans (bzb.mono HA1.out.size)); clear bzb; dsimp only)
                  | (go_at_call 86; refine (kO _ H1.out).mono ?_; rintro e za ⟨rfl, bza⟩; have HA1 := hide (H1.out.trans (bza.mono H1.out.size)); clear bza; dsimp only))
                go_meet
                exact ⟨true, rfl, hide ⟨fun h => (by cases h), HA3.out⟩⟩
              | true =>
                go_wp2_with (first
                  | (go_at_call 86; refine (kB _ HA2.out).mono ?_; rintro e zc ⟨rfl, bzc⟩; have HA3 := hide (HA2.out.trans (bzc.mono HA2.out.size)); clear bzc; dsimp only)
                  | (go_at_call 86; refine (kA _ HA1.out).mono ?_; rintro e zb ⟨rfl, bzb⟩; have HA2 := hide (HA1.out.trans (bzb.mono HA1.out.size)); clear bzb; dsimp only)
                  | (go_at_call 86; refine (kO _ H1.out).mono ?_; rintro e za ⟨rfl, bza⟩; have HA1 := hide (H1.out.trans (bza.mono H1.out.size)); clear bza; dsimp only))
                go_meet
                exact ⟨false, rfl, hide ⟨fun _ => ⟨by omega, by omega, by omega, HG.out.1.symm, HG.out.2.1.symm, HG.out.2.2.symm⟩, HA3.out⟩⟩
  case rest =>
    obtain ⟨B, rfl, HB⟩ := hcut
    clear hmO hmA hmB H1
    cases B with
    | true =>
      go_wp2
      go_ret
      exact ⟨rfl, HB.out.2⟩
    | false =>
      obtain ⟨⟨nO, nA, nB, gO, gA, gB⟩, bw⟩ := (And.intro (HB.out.1 rfl) HB.out.2 : _ ∧ _)
      replace hfO := fun W hW => hfO W hW nO gO
      replace hfA := fun W hW => hfA W hW nA gA
      replace hfB := fun W hW => hfB W hW nB gB
      replace pAB := fun W hW => pAB W hW nA nB
      replace pOA := fun W hW => pOA W hW nO nA
      replace pOB := fun W hW => pOB W hW nO nB
      replace hsg := fun W hW => hsg W hW nA nB
      replace hsA := fun x W hW => hsA x W hW nA
      replace hsB := fun x W hW => hsB x W hW nB
      have hup : ∀ (l : List El), goodL l = true → UpS (srtE l) := fun l hg => srtE_up l (by
        have := mayE_good l
        rw [hg] at this
        simp only [mayE, Bool.and_eq_true, decide_eq_true_eq] at this
        exact this.2)
      have HU := hide (And.intro (hup base gO) (And.intro (hup a gA) (hup b gB)))
      have HP := hide bw
      clear nO nA nB gO gA gB bw HB hup
      go_upto_region 6 with (go_at_call 85; refine (hfO _ HP.out).mono ?_; rintro e w5 ⟨tx, px, hpt, rfl, mg, hfa, b1⟩; have Hc := hide (And.intro hpt (And.intro mg (And.intro hfa b1))); clear hpt mg hfa b1; dsimp only)
      obtain ⟨hpt, mg, hfa, bb⟩ := Hc.out
      obtain ⟨HXb, hHXb⟩ : ∃ q, q = w5.heap.size := ⟨_, rfl⟩
      obtain ⟨W5, hW5⟩ : ∃ q, q = w5.alloc (.cells #[.pointer px] 27) := ⟨_, rfl⟩
      have bW : Below w5.heap.size w5 W5 := by rw [hW5]; exact (Below.refl _ w5).alloc (Nat.le_refl _) _
      have bx : Boxd W5 HXb px tx := ⟨by rw [hW5, hHXb]; exact heap_alloc_new w5 _, hpt, mg.below bW⟩
      have bZ := bb.trans (bW.mono bb.size)
      have HX := hide (And.intro bx hfa)
      replace HP := hide (HP.out.trans (bZ.mono HP.out.size))
      rw [← hW5, ← hHXb]
      clear hpt mg hfa bb hHXb hW5 bW bx bZ Hc
      clear hfO
      go_upto_region 7 with (go_at_call 85; refine (hfA _ HP.out).mono ?_; rintro e w6 ⟨ty, py, hpt, rfl, mg, hfa, b1⟩; have Hc := hide (And.intro hpt (And.intro mg (And.intro hfa b1))); clear hpt mg hfa b1; dsimp only)
      obtain ⟨hpt, mg, hfa, bb⟩ := Hc.out
      obtain ⟨HYb, hHYb⟩ : ∃ q, q = w6.heap.size := ⟨_, rfl⟩
      obtain ⟨W6, hW6⟩ : ∃ q, q = w6.alloc (.cells #[.pointer py] 27) := ⟨_, rfl⟩
      have bW : Below w6.heap.size w6 W6 := by rw [hW6]; exact (Below.refl _ w6).alloc (Nat.le_refl _) _
      have bx : Boxd W6 HYb py ty := ⟨by rw [hW6, hHYb]; exact heap_alloc_new w6 _, hpt, mg.below bW⟩
      have bZ := bb.trans (bW.mono bb.size)
      have HAY : Hid (Pm.Apart tx ty) := hide (Pm.Apart.of_over HX.out.1.2.2.inn hfa.2.2.2)
      have HY := hide (And.intro bx hfa)
      replace HX := hide (And.intro (HX.out.1.below bZ) HX.out.2)
      replace HP := hide (HP.out.trans (bZ.mono HP.out.size))
      rw [← hW6, ← hHYb]
      clear hpt mg hfa bb hHYb hW6 bW bx bZ Hc
      clear hfA
      go_upto_region 8 with (go_at_call 85; refine (hfB _ HP.out).mono ?_; rintro e w7 ⟨tz, pz, hpt, rfl, mg, hfa, b1⟩; have Hc := hide (And.intro hpt (And.intro mg (And.intro hfa b1))); clear hpt mg hfa b1; dsimp only)
      obtain ⟨hpt, mg, hfa, bb⟩ := Hc.out
      obtain ⟨HZb, hHZb⟩ : ∃ q, q = w7.heap.size := ⟨_, rfl⟩
      obtain ⟨W7, hW7⟩ : ∃ q, q = w7.alloc (.cells #[.pointer pz] 27) := ⟨_, rfl⟩
      have bW : Below w7.heap.size w7 W7 := by rw [hW7]; exact (Below.refl _ w7).alloc (Nat.le_refl _) _
      have bx : Boxd W7 HZb pz tz := ⟨by rw [hW7, hHZb]; exact heap_alloc_new w7 _, hpt, mg.below bW⟩
      have bZ := bb.trans (bW.mono bb.size)
      have HZ := hide (And.intro bx hfa)
      replace HX := hide (And.intro (HX.out.1.below bZ) HX.out.2)
      replace HY := hide (And.intro (HY.out.1.below bZ) HY.out.2)
      replace HP := hide (HP.out.trans (bZ.mono HP.out.size))
      rw [← hW7, ← hHZb]
      clear hpt mg hfa bb hHZb hW7 bW bx bZ Hc
      clear hfB
      have qYZ : ∀ W, Below W7.heap.size W7 W → Calls Tryz.prog 93 #[.agg #[.pointer py], .agg #[.pointer pz]] W fun e w' => e = .returned (.bool (subB a b)) ∧ Below W.heap.size W w' := fun W hW => partP (HY.out.1.2.2.below hW) HY.out.1.2.1 (HZ.out.1.2.2.below hW) HZ.out.1.2.1 rfl rfl (by rw [HY.out.2.1, HZ.out.2.1, HY.out.2.2.1, HZ.out.2.2.1]; exact (Bool.true_and _).trans (partF_sub HU.out.2.1 HU.out.2.2))
      have qXY : ∀ W, Below W7.heap.size W7 W → Calls Tryz.prog 93 #[.agg #[.pointer px], .agg #[.pointer py]] W fun e w' => e = .returned (.bool (subB base a)) ∧ Below W.heap.size W w' := fun W hW => partP (HX.out.1.2.2.below hW) HX.out.1.2.1 (HY.out.1.2.2.below hW) HY.out.1.2.1 rfl rfl (by rw [HX.out.2.1, HY.out.2.1, HX.out.2.2.1, HY.out.2.2.1]; exact (Bool.true_and _).trans (partF_sub HU.out.1 HU.out.2.1))
      have cX := HX.out.1.cell
      have cY := HY.out.1.cell
      have cZ := HZ.out.1.cell
      obtain ⟨PAB, hPAB⟩ : ∃ q, q = subB a b := ⟨_, rfl⟩
      obtain ⟨POA, hPOA⟩ : ∃ q, q = subB base a := ⟨_, rfl⟩
      obtain ⟨POB, hPOB⟩ : ∃ q, q = subB base b := ⟨_, rfl⟩
      obtain ⟨SG, hSG⟩ : ∃ q, q = sglB a b := ⟨_, rfl⟩
      rw [← hPAB] at pAB qYZ
      rw [← hPOA] at pOA qXY
      rw [← hPOB] at pOB
      rw [← hSG] at hsg
      have HQ := hide (And.intro hPOA (And.intro hPOB hSG))
      clear hPAB hPOA hPOB hSG
      go_cut [78] (fun v78 wc => v78 = .bool false ∧ Hid (Below W7.heap.size W7 wc))
      case first =>
        clear pOB hsg hsA hsB
        cases PAB <;> cases POA
        all_goals
          go_wp2_with (first
            | (go_at_call 94; refine (pOA _ (HP.out.trans (K3.out.2.mono HP.out.size))).mono ?_; rintro e z4 ⟨rfl, b4⟩; have K4 := hide (K3.out.2.trans (b4.mono K3.out.2.size)); clear b4; dsimp only)
            | (go_at_call 93; refine (qXY _ K2.out).mono ?_; rintro e z3 ⟨rfl, b3⟩; have K3 := hide (And.intro trivial (K2.out.trans (b3.mono K2.out.size))); clear b3; dsimp only)
            | (go_at_call 94; refine (pAB _ (HP.out.trans (K1.out.mono HP.out.size))).mono ?_; rintro e z2 ⟨rfl, b2⟩; have K2 := hide (K1.out.trans (b2.mono K1.out.size)); have cX := cell_stays cX K2.out; have cY := cell_stays cY K2.out; clear b2; dsimp only)
            | (go_at_call 93; refine (qYZ _ (Below.refl _ _)).mono ?_; rintro e z1 ⟨rfl, b1⟩; have K1 := hide b1; clear b1; dsimp only))
          go_meet
          exact ⟨rfl, K4⟩
      case rest =>
        obtain ⟨rfl, HK⟩ := hcut
        replace HX := hide (And.intro (HX.out.1.below HK.out) HX.out.2)
        replace HY := hide (And.intro (HY.out.1.below HK.out) HY.out.2)
        replace HZ := hide (And.intro (HZ.out.1.below HK.out) HZ.out.2)
        replace HP := hide (HP.out.trans (HK.out.mono HP.out.size))
        clear HK cX cY cZ qYZ qXY pAB
        obtain ⟨W8, hW8⟩ : ∃ q, wc = q := ⟨_, rfl⟩
        rw [hW8] at HX HY HZ HP ⊢
        clear hW8
        go_upto_region 10 with fail
        go_cut [94] (fun v94 wc => ∃ B : Bool, v94 = .bool B ∧ Hid ((B = false → subB base a = true ∧ subB base b = true ∧ sglB a b = true) ∧ Below W8.heap.size W8 wc))
        case first =>
          clear hsA hsB
          cases POA with
          | false =>
            go_wp2_with (go_at_call 94; refine (pOA _ HP.out).mono ?_; rintro e z1 ⟨rfl, b1⟩; have K1 := hide b1; clear b1; dsimp only)
            go_meet
            exact ⟨true, rfl, hide ⟨fun h => (by cases h), K1.out⟩⟩
          | true =>
            cases POB with
            | false =>
              go_wp2_with (first
                | (go_at_call 94; refine (pOB _ (HP.out.trans (K1.out.mono HP.out.size))).mono ?_; rintro e z2 ⟨rfl, b2⟩; have K2 := hide (K1.out.trans (b2.mono K1.out.size)); clear b2; dsimp only)
                | (go_at_call 94; refine (pOA _ HP.out).mono ?_; rintro e z1 ⟨rfl, b1⟩; have K1 := hide b1; clear b1; dsimp only))
              go_meet
              exact ⟨true, rfl, hide ⟨fun h => (by cases h), K2.out⟩⟩
            | true =>
              cases SG with
              | false =>
                go_wp2_with (first
                  | (go_at_call 95; refine (hsg _ (HP.out.trans (K2.out.mono HP.out.size))).mono ?_; rintro e z3 ⟨rfl, b3⟩; have K3 := hide (K2.out.trans (b3.mono K2.out.size)); clear b3; dsimp only)
                  | (go_at_call 94; refine (pOB _ (HP.out.trans (K1.out.mono HP.out.size))).mono ?_; rintro e z2 ⟨rfl, b2⟩; have K2 := hide (K1.out.trans (b2.mono K1.out.size)); clear b2; dsimp only)
                  | (go_at_call 94; refine (pOA _ HP.out).mono ?_; rintro e z1 ⟨rfl, b1⟩; have K1 := hide b1; clear b1; dsimp only))
                go_meet
                exact ⟨true, rfl, hide ⟨fun h => (by cases h), K3.out⟩⟩
              | true =>
                go_wp2_with (first
                  | (go_at_call 95; refine (hsg _ (HP.out.trans (K2.out.mono HP.out.size))).mono ?_; rintro e z3 ⟨rfl, b3⟩; have K3 := hide (K2.out.trans (b3.mono K2.out.size)); clear b3; dsimp only)
                  | (go_at_call 94; refine (pOB _ (HP.out.trans (K1.out.mono HP.out.size))).mono ?_; rintro e z2 ⟨rfl, b2⟩; have K2 := hide (K1.out.trans (b2.mono K1.out.size)); clear b2; dsimp only)
                  | (go_at_call 94; refine (pOA _ HP.out).mono ?_; rintro e z1 ⟨rfl, b1⟩; have K1 := hide b1; clear b1; dsimp only))
                go_meet
                exact ⟨false, rfl, hide ⟨fun _ => ⟨HQ.out.1.symm, HQ.out.2.1.symm, HQ.out.2.2.symm⟩, K3.out⟩⟩
        case rest =>
          obtain ⟨B, rfl, HK⟩ := hcut
          clear pOA pOB hsg HQ
          cases B with
          | true =>
            go_wp2
            go_ret
            exact ⟨rfl, HP.out.trans (HK.out.2.mono HP.out.size)⟩
          | false =>
            replace HX := hide (And.intro (HX.out.1.below HK.out.2) HX.out.2)
            replace HY := hide (And.intro (HY.out.1.below HK.out.2) HY.out.2)
            replace HZ := hide (And.intro (HZ.out.1.below HK.out.2) HZ.out.2)
            replace HP := hide (HP.out.trans (HK.out.2.mono HP.out.size))
            have HTP := hide (tog_parts HU.out.1 HU.out.2.1 HU.out.2.2 (HK.out.1 rfl).1 (HK.out.1 rfl).2.1 (HK.out.1 rfl).2.2)
            clear HK
            obtain ⟨W9, hW9⟩ : ∃ q, wc = q := ⟨_, rfl⟩
            rw [hW9] at HX HY HZ HP ⊢
            clear hW9
            have cX := HX.out.1.cell
            have cY := HY.out.1.cell
            have cZ := HZ.out.1.cell
            have ht1 : Calls Tryz.prog 96 #[.agg #[.pointer px], .agg #[.pointer py], .agg #[.pointer pz]] W9 fun e w' => ∃ t pt, t.ptr = .pointer pt ∧ e = .returned (.tuple #[.agg #[.pointer pt], .int .i64 0]) ∧ Mg w' t ∧ (mayL t.list = true ∧ elsL t.list = togL (srtE base) (srtE a) (srtE b)) ∧ Below W9.heap.size W9 w' := by
              refine (three_apart HX.out.1.2.2 HX.out.1.2.1 HY.out.1.2.2 HY.out.1.2.1 HZ.out.1.2.2 HZ.out.1.2.1 HX.out.2.1 HY.out.2.1 HZ.out.2.1 HAY.out (by have := HY.out.2.2.2.1; have := HZ.out.2.2.2.1; omega)).mono (fun e w' hh => ?_)
              obtain ⟨t4, p4, h1, h2, h3, h4, h5⟩ := hh
              have ht := tog_els HX.out.2.1 HY.out.2.1 HZ.out.2.1 HX.out.1.2.2.srt HY.out.1.2.2.srt HZ.out.1.2.2.srt h3.srt h4
              rw [HX.out.2.2.1, HY.out.2.2.1, HZ.out.2.2.1] at ht
              exact ⟨t4, p4, h1, h2, h3, ht, h5⟩
            go_upto_region 12 with fail
            go_upto_region 13 with (go_at_call 96; refine (ht1).mono ?_; rintro e w10 ⟨tm, pm, hpt, rfl, mg, hfa, b1⟩; have Hc := hide (And.intro hpt (And.intro mg (And.intro hfa b1))); clear hpt mg hfa b1; dsimp only)
            obtain ⟨hpt, mg, hfa, bb⟩ := Hc.out
            obtain ⟨HMb, hHMb⟩ : ∃ q, q = w10.heap.size := ⟨_, rfl⟩
            obtain ⟨W10, hW10⟩ : ∃ q, q = w10.alloc (.cells #[.pointer pm] 27) := ⟨_, rfl⟩
            have bW : Below w10.heap.size w10 W10 := by rw [hW10]; exact (Below.refl _ w10).alloc (Nat.le_refl _) _
            have bx : Boxd W10 HMb pm tm := ⟨by rw [hW10, hHMb]; exact heap_alloc_new w10 _, hpt, mg.below bW⟩
            have bZ := bb.trans (bW.mono bb.size)
            have HM := hide (And.intro bx hfa)
            replace HX := hide (And.intro (HX.out.1.below bZ) HX.out.2)
            replace HY := hide (And.intro (HY.out.1.below bZ) HY.out.2)
            replace HZ := hide (And.intro (HZ.out.1.below bZ) HZ.out.2)
            replace HP := hide (HP.out.trans (bZ.mono HP.out.size))
            rw [← hW10, ← hHMb]
            clear hpt mg hfa bb hHMb hW10 bW bx bZ Hc
            clear ht1 cX cY cZ HX HAY
            have cM := HM.out.1.cell
            have he1 := elementsJ HM.out.1.2.2 HM.out.1.2.1
            rw [HM.out.2.1, if_pos rfl, HM.out.2.2] at he1
            obtain ⟨L1, hL1⟩ : ∃ q, q = togL (srtE base) (srtE a) (srtE b) := ⟨_, rfl⟩
            obtain ⟨M1, hM1⟩ : ∃ q, q = L1.length := ⟨_, rfl⟩
            have hlen : M1 ≤ 800 := by rw [hM1, hL1, ← HM.out.2.2]; have h1 := els_few tm; have := HM.out.1.2.2.few; omega
            rw [← hL1] at he1
            rw [← hM1] at he1
            have HE1 := hide (And.intro hL1 hM1)
            clear hL1 hM1
            go_upto_region 14 with (go_at_call 97; refine he1.mono ?_; rintro e w11 ⟨a4, c4, rfl, oe, b1⟩; have Hc := hide (And.intro oe.re b1); clear oe b1; dsimp only)
            have bZ := Hc.out.2
            replace HY := hide (And.intro (HY.out.1.below bZ) HY.out.2)
            replace HZ := hide (And.intro (HZ.out.1.below bZ) HZ.out.2)
            replace HM := hide (And.intro (HM.out.1.below bZ) HM.out.2)
            replace HP := hide (HP.out.trans (bZ.mono HP.out.size))
            have HR1 := hide Hc.out.1
            clear bZ Hc he1 cM
            have q1 : ∀ W, Below w11.heap.size w11 W → Calls Tryz.prog 93 #[.agg #[.pointer py], .agg #[.pointer pm]] W fun e w' => e = .returned (.bool true) ∧ Below W.heap.size W w' := fun W hW => partP (HY.out.1.2.2.below hW) HY.out.1.2.1 (HM.out.1.2.2.below hW) HM.out.1.2.1 rfl rfl (by rw [HY.out.2.1, HM.out.2.1, HY.out.2.2.1, HM.out.2.2]; exact (Bool.true_and _).trans HTP.out.2.1)
            have q2 : ∀ W, Below w11.heap.size w11 W → Calls Tryz.prog 93 #[.agg #[.pointer pz], .agg #[.pointer pm]] W fun e w' => e = .returned (.bool true) ∧ Below W.heap.size W w' := fun W hW => partP (HZ.out.1.2.2.below hW) HZ.out.1.2.1 (HM.out.1.2.2.below hW) HM.out.1.2.1 rfl rfl (by rw [HZ.out.2.1, HM.out.2.1, HZ.out.2.2.1, HM.out.2.2]; exact (Bool.true_and _).trans HTP.out.2.2.1)
            have cY := HY.out.1.cell
            have cZ := HZ.out.1.cell
            have cM := HM.out.1.cell
            go_upto_region 16 with (first
              | (go_at_call 93; refine (q2 _ K1.out).mono ?_; rintro e z2 ⟨rfl, b2⟩; have K2 := hide (K1.out.trans (b2.mono K1.out.size)); clear b2; dsimp only)
              | (go_at_call 93; refine (q1 _ (Below.refl _ _)).mono ?_; rintro e z1 ⟨rfl, b1⟩; have K1 := hide b1; have cZ := cell_stays cZ b1; have cM := cell_stays cM b1; clear b1; dsimp only)
              | (go_at_call 87; refine (jnum35 _ _).mono ?_; rintro e wz ⟨rfl, rfl⟩; dsimp only))
            replace HP := hide (HP.out.trans (K2.out.mono HP.out.size))
            replace HR1 := hide (HR1.out.below K2.out)
            clear q1 q2 K1 K2 cY cZ cM HY HZ HM
            obtain ⟨W12, hW12⟩ : ∃ q, z2 = q := ⟨_, rfl⟩
            rw [hW12] at HP HR1 ⊢
            clear hW12
            go_wp2
            go_loopw [17] (fun iv wr => ∃ i : Nat, i ≤ M1 ∧ iv = .int .i64 i ∧ Hid (Below W12.heap.size W12 wr)) (fun iv _ => M1 - (intOf iv).toNat)
            case atStart => exact ⟨0, by omega, rfl, hide (Below.refl _ _)⟩
            case round =>
              obtain ⟨i, hi, rfl, HBR⟩ := hrel
              by_cases h1 : i < M1
              · have z1 : (i : Int) < (M1 : Int) := by omega
                have d1 : decide (i < M1) = true := by simpa using h1
                obtain ⟨y, hy⟩ : ∃ y, L1[i]? = some y := ⟨_, List.getElem?_eq_getElem (by rw [← HE1.out.2]; exact h1)⟩
                obtain ⟨ab, off, hao, q0, q1, q2, q3, q4, q5⟩ := (HR1.out.below HBR.out).cells hy
                have hor := HTP.out.2.2.2 y (by rw [← HE1.out.1]; exact List.mem_of_getElem? hy)
                have hbr := HP.out.trans (HBR.out.mono HP.out.size)
                have k1 := fun W hW => hsA y W hW
                have k2 := fun W hW => hsB y W hW
                obtain ⟨V, hV⟩ : ∃ q, q = inB y a := ⟨_, rfl⟩
                have hV2 : V = false → inB y b = true := fun h => (inB_iff _ _).2 (hor.resolve_left (fun hc => by rw [hV, (inB_iff _ _).2 hc] at h; cases h))
                rw [← hV] at k1
                have HBH := hide hbr
                have HAO := hide hao
                subst hao
                clear hy hor hbr hV hsA hsB
                cases V with
                | false =>
                  rw [hV2 rfl] at k2
                  clear hV2
                  obtain ⟨⟨g, r, l0, n0, i0⟩, t0⟩ := y
                  dsimp only [ev] at q0 q1 q2 q3 q4 q5 k1 k2
                  go_wp2_with (first
                    | (go_at_call 98; refine (k2 _ (HBH.out.trans (K1.out.mono HBH.out.size))).mono ?_; rintro e z2 ⟨rfl, b2⟩; have K2 := hide (K1.out.trans (b2.mono K1.out.size)); clear b2; dsimp only)
                    | (go_at_call 98; refine (k1 _ HBH.out).mono ?_; rintro e z1 ⟨rfl, b1⟩; have K1 := hide b1; replace q0 := cell_stays q0 b1; replace q1 := cell_stays q1 b1; replace q2 := cell_stays q2 b1; replace q3 := cell_stays q3 b1; replace q4 := cell_stays q4 b1; replace q5 := cell_stays q5 b1; clear b1; dsimp only))
                  go_roundw
                  case rel => exact ⟨i + 1, by omega, by go_num, hide (HBR.out.trans (K2.out.mono HBR.out.size))⟩
                  case measure => simp [intOf]; omega
                | true =>
                  clear hV2 k2
                  obtain ⟨⟨g, r, l0, n0, i0⟩, t0⟩ := y
                  dsimp only [ev] at q0 q1 q2 q3 q4 q5 k1
                  go_wp2_with (go_at_call 98; refine (k1 _ HBH.out).mono ?_; rintro e z1 ⟨rfl, b1⟩; have K1 := hide b1; clear b1; dsimp only)
                  go_roundw
                  case rel => exact ⟨i + 1, by omega, by go_num, hide (HBR.out.trans (K1.out.mono HBR.out.size))⟩
                  case measure => simp [intOf]; omega
              · obtain rfl : i = M1 := by omega
                have d1 : decide (i < i) = false := by simp
                go_wp2
                go_ret
                exact ⟨rfl, HP.out.trans (HBR.out.mono HP.out.size)⟩
end Go.Proofs.YtkkpdgfllnbigaaGreat.Jo
