/-
  tagset: the walk of TagsetSteps (3).
-/
import Derived.Test.YtkkpdgfllnbigaaGreatTgSt1
import Derived.Test.YtkkpdgfllnbigaaGreatTgDo1
import Derived.Test.YtkkpdgfllnbigaaGreatTgDo2
import Derived.Test.YtkkpdgfllnbigaaGreatTgDo3
import Derived.Test.YtkkpdgfllnbigaaGreatTgK
import Derived.Test.YtkkpdgfllnbigaaGreatMg14
import Derived.Deep.DeepCutAuto
import Derived.Deep.CutBlock
namespace Go.Proofs.YtkkpdgfllnbigaaGreat.Tg
open Go.RowKit Go.Shelf
set_option linter.unusedSimpArgs false
set_option linter.unusedVariables false
attribute [local go_sem] Oper.semAt_some

/-- A step of the script: its kind, its text, its stamp. -/
abbrev Sq := Int × ByteArray × St
def encQ (x : Sq) : List Value := [.int .i64 x.1, .string x.2.1, .int .i64 x.2.2.1, .int .i64 x.2.2.2.1, .string x.2.2.2.2.1, .int .i64 x.2.2.2.2.2.1, .int .i64 x.2.2.2.2.2.2]
/-- Steps in a row. -/
def Rq (w : World) (ao : Option Addr) (l : List Sq) : Prop := ∀ k x, l[k]? = some x → ∃ b off, ao = some ⟨b, off, none⟩ ∧ ∀ j u, (encQ x)[j]? = some u → w.cell? ⟨b, off + k * 7 + j, none⟩ = some u
theorem Rq.below {w w' : World} {ao : Option Addr} {l : List Sq} (h : Rq w ao l) (hb : Below w.heap.size w w') : Rq w' ao l := fun k x hx => by
  obtain ⟨b, off, e, hc⟩ := h k x hx
  exact ⟨b, off, e, fun j u hj => cell_stays (hc j u hj) hb⟩
theorem cell_lt8 {w : World} {b o : Nat} {u : Value} (h : w.cell? ⟨b, o, none⟩ = some u) : b < w.heap.size := by
  by_cases hb : b < w.heap.size
  · exact hb
  · exfalso
    have : w.heap[b]? = none := Array.getElem?_eq_none (by omega)
    simp [World.cell?, this] at h
theorem lenT {w : World} {t : Pm.T} {pt : Option Addr} (h : Mg w t) (hp : t.ptr = .pointer pt) : Calls Tryz.prog 21 #[.agg #[.pointer pt]] w fun e w' => e = .returned (.int .i64 (t.n : Nat)) ∧ Below w.heap.size w w' := by
  have := Pm.mLen_any t w h.inn
  unfold Pm.mv at this
  rw [hp] at this
  exact this
theorem ofTB {w : World} {ao : Option Addr} {c : Nat} (l : List El) (h : Re w ao l) (hl : l.length ≤ 120) (hg : goodT l = false) : Calls Tryz.prog 18 #[.slice ao l.length c] w fun e w' => e = .returned (.tuple #[.agg #[.pointer none], .int .i64 2]) ∧ Mg w' .nil ∧ Below w.heap.size w w' := by
  refine (of18 (c := c) l h (by omega)).mono (fun e w' hh => ?_)
  obtain ⟨t, he, hm, hb, -, h1, -⟩ := hh
  have ht := h1 hg
  subst ht
  rw [if_neg (by rw [hg]; decide)] at he
  exact ⟨he, hm, hb⟩
theorem do24 {w : World} {t : Pm.T} {pm : Option Addr} {ao : Option Addr} {c : Nat} (K : Int) (s : St) (X : ByteArray) (h : Mg w t) (hn : t.n < 399) (hp : t.ptr = .pointer pm) (hm : mayT t.list = true) (hre : Re w ao (elsT t.list)) (hss : s.2.2.1.size ≤ 9223372036854775807) :
    Calls Tryz.prog 24 #[.agg #[.pointer pm], .slice ao (elsT t.list).length c, .agg #[.int .i64 K, .string X, .int .i64 s.1, .int .i64 s.2.1, .string s.2.2.1, .int .i64 s.2.2.2.1, .int .i64 s.2.2.2.2]] w (DoT w t) := by
  by_cases h1 : K = 1
  · subst h1; exact do24_1 s X h hn hp hm hre hss
  by_cases h2 : K = 2
  · subst h2; exact do24_2 s X h hn hp hm hre hss
  by_cases h3 : K = 3
  · subst h3; exact do24_3 s X h hn hp hm hre hss
  by_cases h4 : K = 4
  · subst h4; exact do24_4 s X h hn hp hm hre hss
  exact do24_0 K s X h hn hp hm hre hss ⟨h1, h2, h3, h4⟩
set_option maxHeartbeats 16000000 in
set_option maxRecDepth 100000 in
theorem steps3 {w : World} {ao bo : Option Addr} {c d : Nat} (l : List El) (ws : List Sq) (h : Re w ao l) (k : Rq w bo ws) (hs : ∀ x ∈ l, x.1.2.2.1.size ≤ 9223372036854775807) (ks : ∀ x ∈ ws, x.2.2.2.2.1.size ≤ 9223372036854775807) : Calls Tryz.prog 3 #[.slice ao l.length c, .slice bo ws.length d] w fun e w' => e = .returned (.bool true) ∧ Below w.heap.size w w' := by
  obtain ⟨N, hN⟩ : ∃ N, N = l.length := ⟨_, rfl⟩
  obtain ⟨M, hMM⟩ : ∃ M, M = ws.length := ⟨_, rfl⟩
  rw [← hN, ← hMM]
  by_cases h120 : 120 < N
  · have z1 : (120 : Int) < (N : Int) := by omega
    have z2 : decide (120 < N) = true := by simpa using h120
    clear h k hs ks hN hMM
    go_enter Tryz.func3, Tryz.ntmps3
    go_wp2_with (go_at_call 17; refine (known17 _).mono ?_; rintro e w1 ⟨rfl, b1⟩; have H1 := hide b1; clear b1; dsimp only)
    go_ret
    exact ⟨rfl, H1.out⟩
  · have z1 : ¬ (120 : Int) < (N : Int) := by omega
    have z2 : decide (120 < N) = false := by simpa using h120
    have hmayE : mayE l = goodT l := may_goodT l
    have HL := hide (And.intro hN (And.intro hMM (And.intro h (And.intro k (And.intro hs (And.intro ks (And.intro hmayE h120)))))))
    by_cases hg : goodT l = true
    · have hof := ofTG (c := c) l h (by omega) hg
      rw [← hN] at hof
      have HG := hide hg
      clear hN hMM h k hs ks hmayE h120 hg
      go_enter Tryz.func3, Tryz.ntmps3
      go_upto_region 4 with (go_at_call 18; refine hof.mono ?_; rintro e w1 ⟨t, pt, hpt, rfl, mg, hof2, b1⟩; have H1 := hide (And.intro hpt (And.intro mg (And.intro (And.intro (And.intro hof2.1 (els_thr mg.srt (good_nodup HG.out) hof2.2.1)) hof2.2.2.1) b1))); clear hpt mg hof2 b1; dsimp only)
      obtain ⟨hpt, mg, ⟨⟨hmay, hels⟩, hnl⟩, b1⟩ := H1.out
      obtain ⟨B5, hB5⟩ : ∃ q, q = w1.heap.size := ⟨_, rfl⟩
      obtain ⟨W1, hW1⟩ : ∃ q, q = w1.alloc (.cells #[.pointer pt] 27) := ⟨_, rfl⟩
      have b31 : Below w1.heap.size w1 W1 := by rw [hW1]; exact (Below.refl _ w1).alloc (Nat.le_refl _) _
      have BX1 : Boxd W1 B5 pt t := ⟨by rw [hW1, hB5]; exact heap_alloc_new w1 _, hpt, mg.below b31⟩
      have bW1 : Below w.heap.size w W1 := b1.trans (b31.mono b1.size)
      have hB5w : w.heap.size ≤ B5 := by rw [hB5]; exact b1.size
      rw [← hW1, ← hB5]
      have hmy := refMay11 (c := c) l (HL.out.2.2.1.below bW1) (by have := HL.out; omega) HL.out.2.2.2.2.1
      rw [← HL.out.1, HL.out.2.2.2.2.2.2.1, HG.out] at hmy
      have HT := hide (And.intro BX1 (And.intro hmay (And.intro hels (And.intro bW1 (And.intro hB5w hnl)))))
      clear H1 hpt mg hmay hels b1 hB5 hW1 b31 BX1 bW1 hB5w hof hnl
      go_upto_region 6 with (go_at_call 19; refine hmy.mono ?_; rintro e W2 ⟨rfl, b2⟩; have HT2 := hide (And.intro (HT.out.1.below b2) (HT.out.2.2.2.1.trans (b2.mono HT.out.2.2.2.1.size))); clear b2 hmy; dsimp only)
      have BX := HT2.out.1
      have bW2 := HT2.out.2
      have hsort : ∀ W, Below W2.heap.size W2 W → Calls Tryz.prog 22 #[.slice ao N c] W fun e w' => ∃ a8 c8, e = .returned (.slice a8 N c8) ∧ Re w' a8 (srtQ l) ∧ Below W.heap.size W w' := fun W hW => by
        have := sorted22 (c := c) l (HL.out.2.2.1.below (bW2.trans (hW.mono bW2.size))) (by have := HL.out; omega) (good_ok HG.out)
        rw [← HL.out.1] at this
        refine this.mono (fun e w' hh => ?_)
        obtain ⟨v, h1, h2, h3⟩ := hh
        obtain ⟨a8, c8, h4, h5, -⟩ := h2.form
        rw [srtQ_len, ← HL.out.1] at h4
        subst h4
        exact ⟨a8, c8, h1, h5, h3⟩
      go_cut [7, 8] (fun v7 v8 wc => ∃ B7 a8 c8, v7 = .pointer (some ⟨B7, 0, none⟩) ∧ v8 = .slice a8 N c8 ∧ Hid (wc.heap[B7]? = some (.cells #[.pointer pt] 27 (0, 0)) ∧ Re wc a8 (srtQ l) ∧ Below W2.heap.size W2 wc ∧ W2.heap.size ≤ B7))
      case first =>
        clear HT HT2 bW2
        refine wp_region_held_drew (S := fun w' => Below W2.heap.size W2 w') (by kernel_rfl) (by exact drew_below W2) (fun hHeld => ?_)
        try dsimp only at hHeld
        generalize W2.drew = Wd at hHeld ⊢
        refine take_op (i := 0) (d := 35) (OP := Op.load 27 (Operand.tmp 5)) (T := 27) (v := .agg #[.pointer pt]) rfl rfl rfl rfl (by kernel_rfl) (by kernel_rfl) (by kernel_rfl) (fun _ _ _ h => h) (by rfl) ?hzw1 hHeld ?rzw1
        case hzw1 => (intro w' hSw; (try dsimp only at hSw); have lc := cell_stays BX.cell hSw; go_simp)
        try simp only [Act.put, sI, sZ, sS]
        refine take_op (i := 1) (d := 36) (OP := Op.move (Operand.tmp 0)) (T := 22) (v := ?vzw2) rfl rfl rfl rfl (by kernel_rfl) (by kernel_rfl) (by kernel_rfl) (fun _ _ _ h => h) (by rfl) ?hzw2 hHeld ?rzw2
        case hzw2 => (intro w' hSw; (try dsimp only at hSw); go_simp <;> with_reducible rfl)
        try simp only [Act.put, sI, sZ, sS]
        obtain ⟨y1, ey1⟩ : ∃ q, q = Wd.alloc (.cells #[.pointer none] 27) := ⟨_, rfl⟩
        have by1 : Below Wd.heap.size Wd y1 := by rw [ey1]; exact (Below.refl _ Wd).alloc (Nat.le_refl _) _
        have ry1 : y1.heap[Wd.heap.size]? = some (.cells #[.pointer none] 27 (0, 0)) := by rw [ey1]; exact heap_alloc_new Wd _
        have hy1 := hHeld.trans (by1.mono hHeld.size)
        refine call_turn_op (i := 2) (di := 37) (OPi := Op.call { callee := Callee.value (Operand.func 22), args := #[Operand.tmp 36], argTypes := #[22] }) (Ti := 22) (j := 3) (dj := 7) (OPj := Op.alloc 27) (Tj := 0) (f := 22) (args := #[.slice ao N c]) (u := .pointer (some ⟨Wd.heap.size, 0, none⟩)) (w' := y1) rfl rfl rfl rfl rfl rfl rfl rfl (by kernel_rfl) (by rfl) (by rfl) (by go_simp) (by rw [ey1]; exact exec_al27 Wd) hy1 ?_ ?_
        · refine (hsort _ hHeld).mono ?_
          rintro e z1 ⟨a8, c8, rfl, re8, bz⟩
          have hz1 := hHeld.trans (bz.mono hHeld.size)
          refine ⟨_, rfl, hz1, ?_⟩
          try simp only [Act.put, sI, sZ, sS]
          obtain ⟨z2, ez2⟩ : ∃ q, q = z1.alloc (.cells #[.pointer none] 27) := ⟨_, rfl⟩
          have bz2 : Below z1.heap.size z1 z2 := by rw [ez2]; exact (Below.refl _ z1).alloc (Nat.le_refl _) _
          have r9 : z2.heap[z1.heap.size]? = some (.cells #[.pointer none] 27 (0, 0)) := by rw [ez2]; exact heap_alloc_new z1 _
          have h9 := hz1.trans (bz2.mono hz1.size)
          refine turn_op (i := 3) (d := 7) (OP := Op.alloc 27) (T := 0) (v := .pointer (some ⟨z1.heap.size, 0, none⟩)) (w' := z2) rfl rfl rfl rfl (by kernel_rfl) (by rfl) (by rw [ez2]; exact exec_al27 z1) h9 ?_
          try simp only [Act.put, sI, sZ, sS]
          have re9 := re8.below bz2
          have hzs := hz1.size
          clear re8 bz2 ez2 bz by1 ry1 hy1 ey1
          obtain ⟨Bx, hBx⟩ : ∃ q, q = z1.heap.size := ⟨_, rfl⟩
          rw [← hBx] at r9 hzs ⊢
          replace hHeld : Below W2.heap.size W2 Wd ∧ W2.heap.size ≤ Bx := ⟨hHeld, hzs⟩
          clear hBx hzs hz1
          obtain ⟨u9, o9⟩ := set_one (i := 0) (.pointer pt) r9
          have hM9 : Below W2.heap.size W2 (z2.setCell ⟨Bx, 0, none⟩ (.pointer pt)) := Below.only h9 o9 h9.size (fun j e => by have e' : j = Bx := e; have := hHeld.2; omega)
          refine skip_op (i := 4) (OP := Op.store 27 (Operand.tmp 7) (Operand.tmp 35)) (T := 0) (w' := z2.setCell ⟨Bx, 0, none⟩ (.pointer pt)) rfl rfl rfl rfl (by kernel_rfl) (by rfl) (exec_st27 rfl rfl ((cell_of_row _ _ 0 _ 27 (0, 0) r9).trans rfl) (frozen_of_row _ _ 0 _ 27 r9)) ⟨hM9, ?_⟩
          try simp only [Act.put, sI, sZ, sS]
          refine take_op (i := 5) (d := 8) (OP := Op.assign (Operand.tmp 37)) (T := 22) (v := ?vzw3) rfl rfl rfl rfl (by kernel_rfl) (by kernel_rfl) (by kernel_rfl) (fun _ _ _ h => h) (by rfl) ?hzw3 hM9 ?rzw3
          case hzw3 => (intro w' hSw; (try dsimp only at hSw); go_simp <;> with_reducible rfl)
          try simp only [Act.put, sI, sZ, sS]
          refine wpAnyH_done (by kernel_rfl) ?_ _
          have HE : Hid ((z2.setCell ⟨Bx, 0, none⟩ (.pointer pt)).heap[Bx]? = some (.cells #[.pointer pt] 27 (0, 0)) ∧ Re (z2.setCell ⟨Bx, 0, none⟩ (.pointer pt)) a8 (srtQ l) ∧ Below W2.heap.size W2 (z2.setCell ⟨Bx, 0, none⟩ (.pointer pt)) ∧ W2.heap.size ≤ Bx) := hide ⟨by simpa using u9, re9.aside r9 o9, hM9, hHeld.2⟩
          clear u9 o9 hM9 h9 r9 re9 hHeld
          go_wp2
          go_meet
          exact ⟨Bx, a8, c8, rfl, rfl, HE⟩
        · try simp only [Act.put, sI, sZ, sS]
          refine call_op (i := 2) (d := 37) (OP := Op.call { callee := Callee.value (Operand.func 22), args := #[Operand.tmp 36], argTypes := #[22] }) (T := 22) (f := 22) (args := #[.slice ao N c]) rfl rfl rfl rfl (by kernel_rfl) (by rfl) (by go_simp) ?_
          refine (hsort _ hy1).mono ?_
          rintro e z2 ⟨a8, c8, rfl, re9, bz⟩
          have h9 := hy1.trans (bz.mono hy1.size)
          refine ⟨_, rfl, h9, ?_⟩
          try simp only [Act.put, sI, sZ, sS]
          have r9 := (bz.block _ (gI ry1).1).trans ry1
          have hzs := hHeld.size
          clear bz by1 ry1 hy1 ey1
          obtain ⟨Bx, hBx⟩ : ∃ q, q = Wd.heap.size := ⟨_, rfl⟩
          rw [← hBx] at r9 hzs ⊢
          replace hHeld : Below W2.heap.size W2 Wd ∧ W2.heap.size ≤ Bx := ⟨hHeld, hzs⟩
          clear hBx hzs
          obtain ⟨u9, o9⟩ := set_one (i := 0) (.pointer pt) r9
          have hM9 : Below W2.heap.size W2 (z2.setCell ⟨Bx, 0, none⟩ (.pointer pt)) := Below.only h9 o9 h9.size (fun j e => by have e' : j = Bx := e; have := hHeld.2; omega)
          refine skip_op (i := 4) (OP := Op.store 27 (Operand.tmp 7) (Operand.tmp 35)) (T := 0) (w' := z2.setCell ⟨Bx, 0, none⟩ (.pointer pt)) rfl rfl rfl rfl (by kernel_rfl) (by rfl) (exec_st27 rfl rfl ((cell_of_row _ _ 0 _ 27 (0, 0) r9).trans rfl) (frozen_of_row _ _ 0 _ 27 r9)) ⟨hM9, ?_⟩
          try simp only [Act.put, sI, sZ, sS]
          refine take_op (i := 5) (d := 8) (OP := Op.assign (Operand.tmp 37)) (T := 22) (v := ?vzw4) rfl rfl rfl rfl (by kernel_rfl) (by kernel_rfl) (by kernel_rfl) (fun _ _ _ h => h) (by rfl) ?hzw4 hM9 ?rzw4
          case hzw4 => (intro w' hSw; (try dsimp only at hSw); go_simp <;> with_reducible rfl)
          try simp only [Act.put, sI, sZ, sS]
          refine wpAnyH_done (by kernel_rfl) ?_ _
          have HE : Hid ((z2.setCell ⟨Bx, 0, none⟩ (.pointer pt)).heap[Bx]? = some (.cells #[.pointer pt] 27 (0, 0)) ∧ Re (z2.setCell ⟨Bx, 0, none⟩ (.pointer pt)) a8 (srtQ l) ∧ Below W2.heap.size W2 (z2.setCell ⟨Bx, 0, none⟩ (.pointer pt)) ∧ W2.heap.size ≤ Bx) := hide ⟨by simpa using u9, re9.aside r9 o9, hM9, hHeld.2⟩
          clear u9 o9 hM9 h9 r9 re9 hHeld
          go_wp2
          go_meet
          exact ⟨Bx, a8, c8, rfl, rfl, HE⟩
      case rest =>
        obtain ⟨B7, a8, c8, rfl, rfl, HC⟩ := hcut
        have hst : Boxd wc B5 pt t ∧ Boxd wc B7 pt t ∧ Re wc a8 (srtQ l) ∧ Below w.heap.size w wc ∧ w.heap.size ≤ B5 ∧ B5 ≠ B7 := by
          obtain ⟨q1, q2, q3, q4⟩ := HC.out
          have hB := BX.below q3
          refine ⟨hB, ⟨q1, BX.2.1, hB.2.2⟩, q2, bW2.trans (q3.mono bW2.size), HT.out.2.2.2.2.1, fun e => ?_⟩
          have := (gI BX.1).1
          omega
        have HST := hide hst
        have HMY := hide (And.intro HT.out.2.1 (And.intro HT.out.2.2.1 HT.out.2.2.2.2.2))
        have cM : wc.cell? ⟨B5, 0, none⟩ = some (.pointer pt) := hst.1.cell
        have hsd := stands23 (c := c8) hst.1.2.2 BX.2.1 HMY.out.1 HMY.out.2.1.symm hst.2.2.1
        rw [srtQ_len, ← HL.out.1] at hsd
        clear HT HT2 BX bW2 hsort HC hst
        go_upto_region 10 with (first
          | (go_at_call 20; refine (num20 _ _).mono ?_; rintro e wn ⟨rfl, rfl⟩; dsimp only)
          | (go_at_call 23; refine hsd.mono ?_; rintro e w5 ⟨rfl, b5⟩; replace HST := hide (And.intro (HST.out.1.below b5) (And.intro (HST.out.2.1.below b5) (And.intro (HST.out.2.2.1.below b5) (And.intro (HST.out.2.2.2.1.trans (b5.mono HST.out.2.2.2.1.size)) HST.out.2.2.2.2)))); clear b5; dsimp only))
        clear hsd cM
        go_wp2
        go_loopw [9, 10] (fun v9 v10 wr => ∃ (i : Nat) (tc : Pm.T) (pc : Option Addr) (KL : Nat) (a9 : Option Addr) (c9 : Nat), v9 = .slice a9 KL c9 ∧ v10 = .int .i64 i ∧ i ≤ M ∧ Hid (Boxd wr B5 pc tc ∧ mayT tc.list = true ∧ tc.n ≤ 120 + i ∧ Re wr a9 (elsT tc.list) ∧ KL = (elsT tc.list).length ∧ Boxd wr B7 pt t ∧ Re wr a8 (srtQ l) ∧ Below w.heap.size w wr)) (fun _ v10 _ => M - (intOf v10).toNat)
        case atStart => exact ⟨0, t, pt, N, a8, c8, rfl, rfl, Nat.zero_le _, hide ⟨HST.out.1, HMY.out.1, by have h1 := HMY.out.2.2; have h2 := HL.out; omega, by rw [HMY.out.2.1]; exact HST.out.2.2.1, by rw [HMY.out.2.1, srtQ_len]; exact HL.out.1, HST.out.2.1, HST.out.2.2.1, HST.out.2.2.2.1⟩⟩
        case round =>
          obtain ⟨i, tc, pc, KL, a9, c9, rfl, rfl, hi, HI⟩ := hrel
          by_cases hgo : i < M ∧ i < 60
          · have y1 : (i : Int) < (M : Int) := by omega
            have y2 : decide (i < M) = true := by simpa using hgo.1
            have y3 : (i : Int) < 60 := by omega
            have y4 : decide (i < 60) = true := by simpa using hgo.2
            obtain ⟨x, hx⟩ : ∃ x, ws[i]? = some x := ⟨_, List.getElem?_eq_getElem (by rw [← HL.out.2.1]; exact hgo.1)⟩
            have hxs := HL.out.2.2.2.2.2.1 x (List.mem_of_getElem? hx)
            obtain ⟨b, off, hbo, hq⟩ := HL.out.2.2.2.1 i x hx
            obtain ⟨kk, X, ⟨g, r, lb, n, ix⟩⟩ := x
            dsimp only at hxs
            have hbw : b < w.heap.size := cell_lt8 (hq 0 _ rfl)
            have HS : Hid ((∀ W, Below wr.heap.size wr W → W.cell? ⟨b, off + i * 7, none⟩ = some (.int .i64 kk) ∧ W.cell? ⟨b, off + i * 7 + 1, none⟩ = some (.string X) ∧ W.cell? ⟨b, off + i * 7 + 2, none⟩ = some (.int .i64 g) ∧ W.cell? ⟨b, off + i * 7 + 3, none⟩ = some (.int .i64 r) ∧ W.cell? ⟨b, off + i * 7 + 4, none⟩ = some (.string lb) ∧ W.cell? ⟨b, off + i * 7 + 5, none⟩ = some (.int .i64 n) ∧ W.cell? ⟨b, off + i * 7 + 6, none⟩ = some (.int .i64 ix)) ∧ (∀ W W', Only (fun j => j = B5) W W' → (W.cell? ⟨b, off + i * 7, none⟩ = some (.int .i64 kk) ∧ W.cell? ⟨b, off + i * 7 + 1, none⟩ = some (.string X) ∧ W.cell? ⟨b, off + i * 7 + 2, none⟩ = some (.int .i64 g) ∧ W.cell? ⟨b, off + i * 7 + 3, none⟩ = some (.int .i64 r) ∧ W.cell? ⟨b, off + i * 7 + 4, none⟩ = some (.string lb) ∧ W.cell? ⟨b, off + i * 7 + 5, none⟩ = some (.int .i64 n) ∧ W.cell? ⟨b, off + i * 7 + 6, none⟩ = some (.int .i64 ix)) → (W'.cell? ⟨b, off + i * 7, none⟩ = some (.int .i64 kk) ∧ W'.cell? ⟨b, off + i * 7 + 1, none⟩ = some (.string X) ∧ W'.cell? ⟨b, off + i * 7 + 2, none⟩ = some (.int .i64 g) ∧ W'.cell? ⟨b, off + i * 7 + 3, none⟩ = some (.int .i64 r) ∧ W'.cell? ⟨b, off + i * 7 + 4, none⟩ = some (.string lb) ∧ W'.cell? ⟨b, off + i * 7 + 5, none⟩ = some (.int .i64 n) ∧ W'.cell? ⟨b, off + i * 7 + 6, none⟩ = some (.int .i64 ix)))) := hide ⟨fun W hW => by
              have hb := HI.out.2.2.2.2.2.2.2.trans (hW.mono HI.out.2.2.2.2.2.2.2.size)
              exact ⟨cell_stays (hq 0 _ rfl) hb, cell_stays (hq 1 _ rfl) hb, cell_stays (hq 2 _ rfl) hb, cell_stays (hq 3 _ rfl) hb, cell_stays (hq 4 _ rfl) hb, cell_stays (hq 5 _ rfl) hb, cell_stays (hq 6 _ rfl) hb⟩, fun W W' ho hc => by
              have hne : b ≠ B5 := by have := HST.out.2.2.2.2.1; omega
              exact ⟨ho.cell hc.1 hne, ho.cell hc.2.1 hne, ho.cell hc.2.2.1 hne, ho.cell hc.2.2.2.1 hne, ho.cell hc.2.2.2.2.1 hne, ho.cell hc.2.2.2.2.2.1 hne, ho.cell hc.2.2.2.2.2.2 hne⟩⟩
            have HDO : Hid (∀ W, Below wr.heap.size wr W → Calls Tryz.prog 24 #[.agg #[.pointer pc], .slice a9 KL c9, .agg #[.int .i64 kk, .string X, .int .i64 g, .int .i64 r, .string lb, .int .i64 n, .int .i64 ix]] W (DoT W tc)) := hide (fun W hW => by
              have := do24 (c := c9) kk (g, r, lb, n, ix) X (HI.out.1.2.2.below hW) (by have := HI.out.2.2.1; omega) HI.out.1.2.1 HI.out.2.1 (HI.out.2.2.2.1.below hW) hxs
              rw [← HI.out.2.2.2.2.1] at this
              exact this)
            have HBO := hide (And.intro hbo (And.intro hx hbw))
            subst hbo
            have cM := HI.out.1.cell
            clear hx hxs hq hbw
            go_upto_region 14 with fail
            go_cut [9, 11] (fun v9 v11 wc => ∃ tn pn an cn, v9 = .slice an (elsT tn.list).length cn ∧ v11 = .bool true ∧ Hid (Boxd wc B5 pn tn ∧ mayT tn.list = true ∧ Re wc an (elsT tn.list) ∧ tn.n ≤ tc.n + 1 ∧ Boxd wc B7 pt t ∧ Re wc a8 (srtQ l) ∧ Below w.heap.size w wc))
            case first =>
              refine wp_region_held_drew (S := fun w' => w'.cell? ⟨b, off + i * 7, none⟩ = some (.int .i64 kk) ∧ w'.cell? ⟨b, off + i * 7 + 1, none⟩ = some (.string X) ∧ w'.cell? ⟨b, off + i * 7 + 2, none⟩ = some (.int .i64 g) ∧ w'.cell? ⟨b, off + i * 7 + 3, none⟩ = some (.int .i64 r) ∧ w'.cell? ⟨b, off + i * 7 + 4, none⟩ = some (.string lb) ∧ w'.cell? ⟨b, off + i * 7 + 5, none⟩ = some (.int .i64 n) ∧ w'.cell? ⟨b, off + i * 7 + 6, none⟩ = some (.int .i64 ix)) (by kernel_rfl) (by exact HS.out.1 _ (drew_below wr)) (fun hHeld => ?_)
              try dsimp only at hHeld
              have bWd : Below wr.heap.size wr wr.drew := drew_below wr
              generalize wr.drew = Wd at hHeld bWd ⊢
              have cMd := cell_stays cM bWd
              refine take_op (i := 1) (d := 60) (OP := Op.move (Operand.tmp 9)) (T := 22) (v := ?vzw5) rfl rfl rfl rfl (by kernel_rfl) (by kernel_rfl) (by kernel_rfl) (fun _ _ _ h => h) (by rfl) ?hzw5 hHeld ?rzw5
              case hzw5 => (intro w' hSw; (try dsimp only at hSw); go_simp <;> with_reducible rfl)
              try simp only [Act.put, sI, sZ, sS]
              refine take_op (i := 2) (d := 61) (OP := Op.move (Operand.tmp 1)) (T := 23) (v := ?vzw6) rfl rfl rfl rfl (by kernel_rfl) (by kernel_rfl) (by kernel_rfl) (fun _ _ _ h => h) (by rfl) ?hzw6 hHeld ?rzw6
              case hzw6 => (intro w' hSw; (try dsimp only at hSw); go_simp <;> with_reducible rfl)
              try simp only [Act.put, sI, sZ, sS]
              refine take_op (i := 3) (d := 62) (OP := Op.move (Operand.tmp 10)) (T := 3) (v := ?vzw7) rfl rfl rfl rfl (by kernel_rfl) (by kernel_rfl) (by kernel_rfl) (fun _ _ _ h => h) (by rfl) ?hzw7 hHeld ?rzw7
              case hzw7 => (intro w' hSw; (try dsimp only at hSw); go_simp <;> with_reducible rfl)
              try simp only [Act.put, sI, sZ, sS]
              refine take_op (i := 4) (d := 63) (OP := Op.indexAddr 23 (Operand.tmp 61) (Operand.tmp 62)) (T := 0) (v := .pointer (some ⟨b, off + i * 7, none⟩)) rfl rfl rfl rfl (by kernel_rfl) (by kernel_rfl) (by kernel_rfl) (fun _ _ _ h => h) (by rfl) ?hzw8 hHeld ?rzw8
              case hzw8 => (intro w' hSw; (try dsimp only at hSw); clear hSw; go_simp)
              try simp only [Act.put, sI, sZ, sS]
              refine take_op (i := 5) (d := 64) (OP := Op.load 45 (Operand.tmp 63)) (T := 45) (v := .agg #[.int .i64 kk, .string X, .int .i64 g, .int .i64 r, .string lb, .int .i64 n, .int .i64 ix]) rfl rfl rfl rfl (by kernel_rfl) (by kernel_rfl) (by kernel_rfl) (fun _ _ _ h => h) (by rfl) ?hzw9 hHeld ?rzw9
              case hzw9 => (intro w' hSw; (try dsimp only at hSw); obtain ⟨p0, p1, p2, p3, p4, p5, p6⟩ := hSw; go_simp)
              try simp only [Act.put, sI, sZ, sS]
              refine turn_op (i := 0) (d := 59) (OP := Op.load 27 (Operand.tmp 5)) (T := 27) (v := .agg #[.pointer pc]) (w' := Wd) rfl rfl rfl rfl (by kernel_rfl) (by rfl) (by go_simp) hHeld ?_
              try simp only [Act.put, sI, sZ, sS]
              refine call_op (i := 6) (d := 65) (OP := Op.call { callee := Callee.value (Operand.func 24), args := #[Operand.tmp 59, Operand.tmp 60, Operand.tmp 64], argTypes := #[27, 22, 45] }) (T := 36) (f := 24) (args := #[.agg #[.pointer pc], .slice a9 KL c9, .agg #[.int .i64 kk, .string X, .int .i64 g, .int .i64 r, .string lb, .int .i64 n, .int .i64 ix]]) rfl rfl rfl rfl (by kernel_rfl) (by rfl) (by go_simp) ?_
              refine (HDO.out Wd bWd).mono ?_
              intro e z2 hD
              obtain ⟨tn, pn, an, cn, hpn, rfl, mgn, myn, rqn, hnn, bz⟩ := hD
              have bz2 := bWd.trans (bz.mono bWd.size)
              have hz2 := HS.out.1 z2 bz2
              refine ⟨_, rfl, hz2, ?_⟩
              try simp only [Act.put, sI, sZ, sS]
              refine take_op (i := 7) (d := 58) (OP := Op.move (Operand.tmp 65)) (T := 36) (v := ?vzw10) rfl rfl rfl rfl (by kernel_rfl) (by kernel_rfl) (by kernel_rfl) (fun _ _ _ h => h) (by rfl) ?hzw10 hz2 ?rzw10
              case hzw10 => (intro w' hSw; (try dsimp only at hSw); go_simp <;> with_reducible rfl)
              try simp only [Act.put, sI, sZ, sS]
              refine take_op (i := 8) (d := 66) (OP := Op.extract (Operand.tmp 58) 0) (T := 27) (v := ?vzw11) rfl rfl rfl rfl (by kernel_rfl) (by kernel_rfl) (by kernel_rfl) (fun _ _ _ h => h) (by rfl) ?hzw11 hz2 ?rzw11
              case hzw11 => (intro w' hSw; (try dsimp only at hSw); go_simp <;> with_reducible rfl)
              try simp only [Act.put, sI, sZ, sS]
              refine take_op (i := 9) (d := 67) (OP := Op.extract (Operand.tmp 58) 1) (T := 22) (v := ?vzw12) rfl rfl rfl rfl (by kernel_rfl) (by kernel_rfl) (by kernel_rfl) (fun _ _ _ h => h) (by rfl) ?hzw12 hz2 ?rzw12
              case hzw12 => (intro w' hSw; (try dsimp only at hSw); go_simp <;> with_reducible rfl)
              try simp only [Act.put, sI, sZ, sS]
              refine take_op (i := 10) (d := 68) (OP := Op.extract (Operand.tmp 58) 2) (T := 4) (v := ?vzw13) rfl rfl rfl rfl (by kernel_rfl) (by kernel_rfl) (by kernel_rfl) (fun _ _ _ h => h) (by rfl) ?hzw13 hz2 ?rzw13
              case hzw13 => (intro w' hSw; (try dsimp only at hSw); go_simp <;> with_reducible rfl)
              try simp only [Act.put, sI, sZ, sS]
              have r5 := (HI.out.1.below bz2).1
              obtain ⟨u5, o5⟩ := set_one (i := 0) (.pointer pn) r5
              have hz3 := HS.out.2 _ _ o5 hz2
              refine skip_op (i := 11) (OP := Op.store 27 (Operand.tmp 5) (Operand.tmp 66)) (T := 0) (w' := z2.setCell ⟨B5, 0, none⟩ (.pointer pn)) rfl rfl rfl rfl (by kernel_rfl) (by rfl) (exec_st27 rfl rfl ((cell_of_row _ _ 0 _ 27 (0, 0) r5).trans rfl) (frozen_of_row _ _ 0 _ 27 r5)) ⟨hz3, ?_⟩
              try simp only [Act.put, sI, sZ, sS]
              refine take_op (i := 12) (d := 9) (OP := Op.assign (Operand.tmp 67)) (T := 22) (v := ?vzw14) rfl rfl rfl rfl (by kernel_rfl) (by kernel_rfl) (by kernel_rfl) (fun _ _ _ h => h) (by rfl) ?hzw14 hz3 ?rzw14
              case hzw14 => (intro w' hSw; (try dsimp only at hSw); go_simp <;> with_reducible rfl)
              try simp only [Act.put, sI, sZ, sS]
              refine take_op (i := 13) (d := 11) (OP := Op.assign (Operand.tmp 68)) (T := 4) (v := ?vzw15) rfl rfl rfl rfl (by kernel_rfl) (by kernel_rfl) (by kernel_rfl) (fun _ _ _ h => h) (by rfl) ?hzw15 hz3 ?rzw15
              case hzw15 => (intro w' hSw; (try dsimp only at hSw); go_simp <;> with_reducible rfl)
              try simp only [Act.put, sI, sZ, sS]
              refine wpAnyH_done (by kernel_rfl) ?_ _
              have HE : Hid (Boxd (z2.setCell ⟨B5, 0, none⟩ (.pointer pn)) B5 pn tn ∧ mayT tn.list = true ∧ Re (z2.setCell ⟨B5, 0, none⟩ (.pointer pn)) an (elsT tn.list) ∧ tn.n ≤ tc.n + 1 ∧ Boxd (z2.setCell ⟨B5, 0, none⟩ (.pointer pn)) B7 pt t ∧ Re (z2.setCell ⟨B5, 0, none⟩ (.pointer pn)) a8 (srtQ l) ∧ Below w.heap.size w (z2.setCell ⟨B5, 0, none⟩ (.pointer pn))) := hide (by
                have hb := HI.out.2.2.2.2.2.2.2.trans (bz2.mono HI.out.2.2.2.2.2.2.2.size)
                exact ⟨⟨by simpa using u5, hpn, mgn.aside r5 o5⟩, myn, rqn.aside r5 o5, hnn, (HI.out.2.2.2.2.2.1.below bz2).aside r5 o5 (fun e => HST.out.2.2.2.2.2 e.symm), (HI.out.2.2.2.2.2.2.1.below bz2).aside r5 o5, Below.only hb o5 hb.size (fun j e => by have e' : j = B5 := e; have := HST.out.2.2.2.2.1; omega)⟩)
              clear u5 o5 r5 hz2 hz3 bz bz2 mgn myn rqn hnn hpn hHeld bWd cMd
              go_wp2
              go_meet
              exact ⟨tn, pn, an, cn, rfl, rfl, HE⟩
            case rest =>
              obtain ⟨tn, pn, an, cn, rfl, rfl, HCC⟩ := hcut
              have hsd := stands23 (c := cn) HCC.out.1.2.2 HCC.out.1.2.1 HCC.out.2.1 rfl HCC.out.2.2.1
              obtain ⟨KN, hKN⟩ : ∃ q, q = (elsT tn.list).length := ⟨_, rfl⟩
              rw [← hKN] at hsd ⊢
              have cM2 := HCC.out.1.cell
              have HLN := hide (And.intro HI.out.2.2.1 hKN)
              clear HI HS HDO cM hKN
              go_wp2_with (go_at_call 23; refine hsd.mono ?_; rintro e w9 ⟨rfl, b9⟩; replace HCC := hide (And.intro (HCC.out.1.below b9) (And.intro HCC.out.2.1 (And.intro (HCC.out.2.2.1.below b9) (And.intro HCC.out.2.2.2.1 (And.intro (HCC.out.2.2.2.2.1.below b9) (And.intro (HCC.out.2.2.2.2.2.1.below b9) (HCC.out.2.2.2.2.2.2.trans (b9.mono HCC.out.2.2.2.2.2.2.size)))))))); clear b9; dsimp only)
              go_roundw
              case rel => exact ⟨i + 1, tn, pn, KN, an, cn, rfl, by go_num, by omega, hide ⟨HCC.out.1, HCC.out.2.1, by have h1 := HCC.out.2.2.2.1; have h2 := HLN.out.1; omega, HCC.out.2.2.1, HLN.out.2, HCC.out.2.2.2.2.1, HCC.out.2.2.2.2.2.1, HCC.out.2.2.2.2.2.2⟩⟩
              case measure => simp [intOf]; omega
          · have hsd := stands23 (c := c8) HI.out.2.2.2.2.2.1.2.2 HI.out.2.2.2.2.2.1.2.1 HMY.out.1 HMY.out.2.1.symm HI.out.2.2.2.2.2.2.1
            rw [srtQ_len, ← HL.out.1] at hsd
            have cF := HI.out.2.2.2.2.2.1.cell
            by_cases h1 : i < M
            · have y1 : (i : Int) < (M : Int) := by omega
              have y2 : decide (i < M) = true := by simpa using h1
              have y3 : ¬ (i : Int) < 60 := by omega
              have y4 : decide (i < 60) = false := by simp; omega
              clear hgo
              go_wp2_with (first
                | (go_at_call 23; refine hsd.mono ?_; rintro e w9 ⟨rfl, b9⟩; have H9 := hide (HI.out.2.2.2.2.2.2.2.trans (b9.mono HI.out.2.2.2.2.2.2.2.size)); clear b9; dsimp only)
                | (go_at_call 17; refine (known17 _).mono ?_; rintro e w10 ⟨rfl, b10⟩; have H10 := hide (H9.out.trans (b10.mono H9.out.size)); clear b10; dsimp only))
              go_ret
              exact ⟨rfl, H10.out⟩
            · have y1 : ¬ (i : Int) < (M : Int) := by omega
              have y2 : decide (i < M) = false := by simpa using h1
              clear hgo
              go_wp2_with (first
                | (go_at_call 23; refine hsd.mono ?_; rintro e w9 ⟨rfl, b9⟩; have H9 := hide (HI.out.2.2.2.2.2.2.2.trans (b9.mono HI.out.2.2.2.2.2.2.2.size)); clear b9; dsimp only)
                | (go_at_call 17; refine (known17 _).mono ?_; rintro e w10 ⟨rfl, b10⟩; have H10 := hide (H9.out.trans (b10.mono H9.out.size)); clear b10; dsimp only))
              go_ret
              exact ⟨rfl, H10.out⟩
    · have hg' : goodT l = false := by simpa using hg
      have hof := ofTB (c := c) l h (by omega) hg'
      rw [← hN] at hof
      have HG := hide hg'
      clear hN hMM h k hs ks hmayE h120 hg hg'
      go_enter Tryz.func3, Tryz.ntmps3
      go_upto_region 4 with (go_at_call 18; refine hof.mono ?_; rintro e w1 ⟨rfl, mg, b1⟩; have H1 := hide (And.intro mg b1); clear mg b1; dsimp only)
      obtain ⟨mg, b1⟩ := H1.out
      obtain ⟨B5, hB5⟩ : ∃ q, q = w1.heap.size := ⟨_, rfl⟩
      obtain ⟨W1, hW1⟩ : ∃ q, q = w1.alloc (.cells #[.pointer none] 27) := ⟨_, rfl⟩
      have b31 : Below w1.heap.size w1 W1 := by rw [hW1]; exact (Below.refl _ w1).alloc (Nat.le_refl _) _
      have BX1 : Boxd W1 B5 none .nil := ⟨by rw [hW1, hB5]; exact heap_alloc_new w1 _, rfl, mg.below b31⟩
      have bW1 : Below w.heap.size w W1 := b1.trans (b31.mono b1.size)
      have hn0 : (Pm.T.nil).n = 0 := rfl
      rw [← hW1, ← hB5]
      have hmy := refMay11 (c := c) l (HL.out.2.2.1.below bW1) (by have := HL.out; omega) HL.out.2.2.2.2.1
      rw [← HL.out.1, HL.out.2.2.2.2.2.2.1, HG.out] at hmy
      have HT := hide (And.intro BX1 (And.intro hn0 bW1))
      clear H1 mg b1 hB5 hW1 b31 BX1 bW1 hof hn0
      go_upto_region 5 with (go_at_call 19; refine hmy.mono ?_; rintro e W2 ⟨rfl, b2⟩; replace HT := hide (And.intro (HT.out.1.below b2) (And.intro HT.out.2.1 (HT.out.2.2.trans (b2.mono HT.out.2.2.size)))); clear b2 hmy; dsimp only)
      have cM := HT.out.1.cell
      have hlen := lenT HT.out.1.2.2 HT.out.1.2.1
      rw [HT.out.2.1] at hlen
      go_wp2_with (first
        | (go_at_call 20; refine (num20 _ _).mono ?_; rintro e wn ⟨rfl, rfl⟩; dsimp only)
        | (go_at_call 21; refine hlen.mono ?_; rintro e w3 ⟨rfl, b3⟩; have H3 := hide (HT.out.2.2.trans (b3.mono HT.out.2.2.size)); clear b3; dsimp only)
        | (go_at_call 17; refine (known17 _).mono ?_; rintro e w4 ⟨rfl, b4⟩; have H4 := hide (H3.out.trans (b4.mono H3.out.size)); clear b4; dsimp only))
      go_ret
      exact ⟨rfl, H4.out⟩
end Go.Proofs.YtkkpdgfllnbigaaGreat.Tg
