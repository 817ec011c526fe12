/-
  tagset: the program's OfKey (6) is the document's.
-/
import Derived.Test.YtkkpdgfllnbigaaGreatDoorMg14
import Derived.Test.YtkkpdgfllnbigaaGreatDoorMg16
import Derived.Test.YtkkpdgfllnbigaaGreatDoorMg15
namespace Go.Proofs.YtkkpdgfllnbigaaGreatDoor.Tg
open Go.RowKit Go.Shelf
set_option linter.unusedSimpArgs false
set_option linter.unusedVariables false
attribute [local go_sem] Oper.semAt_some

/-- internal/bytealg.MaxLen holds a number. -/
def MxE (w : World) : Prop := ∃ m, w.cell? ⟨0, 0, none⟩ = some (.int .i64 m)
theorem MxE.below {w w' : World} (h : MxE w) (hb : Below w.heap.size w w') : MxE w' := h.imp fun _ hm => cell_stays hm hb
theorem drewN_below (w : World) (n : Nat) : Below w.heap.size w (w.drewN n) := below_drew _ _
theorem cut_len (s sep : List UInt8) : (Lib.cut s sep).1.length ≤ s.length := by
  unfold Lib.cut
  split
  · simp; omega
  · exact Nat.le_refl _
theorem ret_row_tmpK {P : Program} {fn : Func} {p q : Tmp} {ty : TypeId} (b : Nat) (cs : List Value) {R : Ending → World → Prop} {a : Act} {w : World} (h : fn.results = #[.cell p ty, .tmp q]) (hp : a.tmps.getD p undef = .pointer (some ⟨b, 0, none⟩)) {v : Value} (hq : a.tmps.getD q undef = v)
    {d : TypeDesc} (hu : P.underlying ty = some d) (hd : d.isRow = true) (hi : (P.info? ty).map (·.size) = some cs.length) {t : TypeId} {fr : Nat × Nat} (hc : w.heap[b]? = some (.cells cs.toArray t fr)) (hdef : a.defers = [])
    (hR : R (.returned (.tuple #[.agg cs.toArray, v])) w) : bodyPost P fn R .ret a w := by
  refine bodyPost_ret (v := .tuple #[.agg cs.toArray, v]) ?_ hdef hR
  have := run_loadVar_mid (P := P) w b 0 ty cs _ (fun j v hv => by rw [cell_of_row w b (0 + j) cs.toArray t fr hc, Nat.zero_add]; simpa using hv) hu hd hi
  have hp' : a.tmps[p]?.getD undef = .pointer (some ⟨b, 0, none⟩) := by simpa using hp
  have hq' : a.tmps[q]?.getD undef = v := by simpa using hq
  simp [results, h, hp', hq', asAddr, Sem.run_bind, Result.andThen, this]
set_option maxHeartbeats 4000000 in
set_option maxRecDepth 100000 in
theorem ofKey6 (k : ByteArray) (w : World) (hk : k.size ≤ 100000) (hM : MxE w) : Calls Tryz.prog 6 #[.string k] w fun e w' => e = .returned (.tuple #[ev (ofK k).1, .bool (ofK k).2]) ∧ Below w.heap.size w w' := by
  obtain ⟨w0, hw0⟩ : ∃ q, q = w.alloc (.cells #[.int .i64 0, .int .i64 0, .string ⟨#[]⟩, .int .i64 0, .int .i64 0, .string ⟨#[]⟩] 33) := ⟨_, rfl⟩
  have m := heap_alloc_new w (.cells #[.int .i64 0, .int .i64 0, .string ⟨#[]⟩, .int .i64 0, .int .i64 0, .string ⟨#[]⟩] 33)
  have b0 : Below w.heap.size w (w.alloc (.cells #[.int .i64 0, .int .i64 0, .string ⟨#[]⟩, .int .i64 0, .int .i64 0, .string ⟨#[]⟩] 33)) := (Below.refl _ w).alloc (Nat.le_refl _) _
  rw [← hw0] at m b0
  obtain ⟨Rb, hRb⟩ : ∃ q, q = w.heap.size := ⟨_, rfl⟩
  rw [← hRb] at m
  have HC : Hid (∀ W, Below w0.heap.size w0 W → W.heap[Rb]? = some (.cells #[.int .i64 0, .int .i64 0, .string ⟨#[]⟩, .int .i64 0, .int .i64 0, .string ⟨#[]⟩] 33 (0, 0)) ∧ Below w.heap.size w W) := hide (fun W hW => ⟨(hW.block _ (gI m).1).trans m, b0.trans (hW.mono b0.size)⟩)
  have HW0 := hide (And.intro hw0 hRb)
  obtain ⟨A, hA⟩ : ∃ A : ByteArray, A = ⟨(Lib.cut k.data.toList [0, 0]).1.toArray⟩ := ⟨_, rfl⟩
  have hAs : A.size ≤ 100000 := by
    have := cut_len k.data.toList [0, 0]
    rw [hA]
    show (Lib.cut k.data.toList [0, 0]).1.toArray.size ≤ _
    rw [List.size_toArray]
    exact Nat.le_trans this (by simpa using hk)
  have hr : (⟨(Lib.replaceAll A.data.toList [0, 1] [0]).toArray⟩ : ByteArray) = rdT k := by rw [hA]; rfl
  have kC : ∀ W, Below w0.heap.size w0 W → Calls Tryz.prog 23 #[.string k, .string ⟨#[0, 0]⟩] W fun e w' => ∃ u v, e = .returned (.tuple #[.string A, .string u, .bool v]) ∧ Below W.heap.size W w' := fun W hW => by
    obtain ⟨M, hm⟩ := (hM.below b0).below hW
    have := Tryz.strings_Cut k ⟨#[0, 0]⟩ M W (by omega) hm
    refine this.mono fun e w' hh => ?_
    obtain ⟨he, n, hn⟩ := hh
    exact ⟨_, _, he.trans (by rw [hA]), by rw [hn]; exact drewN_below _ _⟩
  have kR : ∀ W, Below w0.heap.size w0 W → Calls Tryz.prog 24 #[.string A, .string ⟨#[0, 1]⟩, .string ⟨#[0]⟩] W fun e w' => e = .returned (.string (rdT k)) ∧ Below W.heap.size W w' := fun W hW => by
    obtain ⟨M, hm⟩ := (hM.below b0).below hW
    have h1 : (⟨#[0, 1]⟩ : ByteArray).size = 2 := rfl
    have h2 : (⟨#[0]⟩ : ByteArray).size = 1 := rfl
    have hb := Lib.countB_mul_le ⟨#[0, 1]⟩ (by rw [h1]; decide) A.size A (Nat.le_refl _)
    have := Tryz.strings_ReplaceAll A ⟨#[0, 1]⟩ ⟨#[0]⟩ M W (by omega) hm (by rw [h1]; decide) (by rw [h2]; rw [h1] at hb; omega)
    exact this.mono fun e w' ⟨he, hn⟩ => ⟨by rw [he]; exact congrArg (fun q => Ending.returned (.string q)) hr, hn⟩
  have kT := fun W => tag177 k (rdT k) W (by omega)
  have hof := ofK_prog k
  obtain ⟨TV, hTV⟩ : ∃ q, q = tgV k (rdT k) := ⟨_, rfl⟩
  obtain ⟨TS, hTS⟩ : ∃ q, q = tgS k (rdT k) := ⟨_, rfl⟩
  obtain ⟨X, hX⟩ : ∃ q, q = rdT k := ⟨_, rfl⟩
  rw [← hTV, ← hTS, ← hX] at hof
  simp only [← hTV, ← hTS] at kT
  rw [← hX] at kR kT
  obtain ⟨g, r, lb, n, ix⟩ := TS
  dsimp only [svT, sv] at kT
  have HOF := hide hof
  clear m b0 hw0 hRb hA hAs hr hof hTV hTS hX hM
  cases TV with
  | false =>
    go_enter Tryz.func6, Tryz.ntmps6
    go_upto_region 1 with fail
    rw [← HW0.out.1, ← HW0.out.2]
    go_upto_region 4 with (first
      | (go_at_call 25; refine (kT _).mono ?_; rintro e w3 ⟨rfl, b3⟩; have H3 := hide (H2.out.trans (b3.mono H2.out.size)); clear b3; dsimp only)
      | (go_at_call 24; refine (kR _ H1.out).mono ?_; rintro e w2 ⟨rfl, b2⟩; have H2 := hide (H1.out.trans (b2.mono H1.out.size)); clear b2; dsimp only)
      | (go_at_call 23; refine (kC _ (Below.refl _ _)).mono ?_; rintro e w1 ⟨u1, v1, rfl, b1⟩; have H1 := hide b1; clear b1; dsimp only))
    obtain ⟨W4, hW4⟩ : ∃ q, q = w3.alloc (.cells #[.int .i64 g, .int .i64 r, .string lb, .int .i64 n, .int .i64 ix] 27) := ⟨_, rfl⟩
    have b4 : Below w3.heap.size w3 W4 := by rw [hW4]; exact (Below.refl _ w3).alloc (Nat.le_refl _) _
    obtain ⟨e5, bw5⟩ := HC.out W4 (H3.out.trans (b4.mono H3.out.size))
    obtain ⟨u7, o7⟩ := set6 (.int .i64 0) (.int .i64 0) (.string ⟨#[]⟩) (.int .i64 0) (.int .i64 0) (.string ⟨#[]⟩) e5
    have b7 := Below.only bw5 o7 bw5.size (fun j e => by have e' : j = Rb := e; have := HW0.out.2; omega)
    have HE := hide (And.intro u7 b7)
    rw [← hW4]
    have d0 : World.cell? W4 ⟨Rb, 0, none⟩ = some (.int .i64 0) := (cell_of_row _ _ 0 _ 33 (0, 0) e5).trans rfl
    have d1 : World.cell? W4 ⟨Rb, 1, none⟩ = some (.int .i64 0) := (cell_of_row _ _ 1 _ 33 (0, 0) e5).trans rfl
    have d2 : World.cell? W4 ⟨Rb, 2, none⟩ = some (.string ⟨#[]⟩) := (cell_of_row _ _ 2 _ 33 (0, 0) e5).trans rfl
    have d3 : World.cell? W4 ⟨Rb, 3, none⟩ = some (.int .i64 0) := (cell_of_row _ _ 3 _ 33 (0, 0) e5).trans rfl
    have d4 : World.cell? W4 ⟨Rb, 4, none⟩ = some (.int .i64 0) := (cell_of_row _ _ 4 _ 33 (0, 0) e5).trans rfl
    have d5 : World.cell? W4 ⟨Rb, 5, none⟩ = some (.string ⟨#[]⟩) := (cell_of_row _ _ 5 _ 33 (0, 0) e5).trans rfl
    have g0 := frozen_of_row W4 Rb 0 _ 33 e5
    have g1 := frozen_of_row W4 Rb 1 _ 33 e5
    have g2 := frozen_of_row W4 Rb 2 _ 33 e5
    have g3 := frozen_of_row W4 Rb 3 _ 33 e5
    have g4 := frozen_of_row W4 Rb 4 _ 33 e5
    have g5 := frozen_of_row W4 Rb 5 _ 33 e5
    clear u7 o7 e5 bw5 b7 hW4 b4 kC kR kT
    go_wp2
    refine ret_row_tmpK Rb [.int .i64 0, .int .i64 0, .string ⟨#[]⟩, .int .i64 0, .int .i64 0, .string ⟨#[]⟩] rfl rfl rfl Tryz.underlying33 rfl T53 HE.out.1 rfl ?_
    exact ⟨by rw [HOF.out]; rfl, HE.out.2⟩
  | true =>
    go_enter Tryz.func6, Tryz.ntmps6
    go_upto_region 1 with fail
    rw [← HW0.out.1, ← HW0.out.2]
    go_upto_region 4 with (first
      | (go_at_call 25; refine (kT _).mono ?_; rintro e w3 ⟨rfl, b3⟩; have H3 := hide (H2.out.trans (b3.mono H2.out.size)); clear b3; dsimp only)
      | (go_at_call 24; refine (kR _ H1.out).mono ?_; rintro e w2 ⟨rfl, b2⟩; have H2 := hide (H1.out.trans (b2.mono H1.out.size)); clear b2; dsimp only)
      | (go_at_call 23; refine (kC _ (Below.refl _ _)).mono ?_; rintro e w1 ⟨u1, v1, rfl, b1⟩; have H1 := hide b1; clear b1; dsimp only))
    obtain ⟨W4, hW4⟩ : ∃ q, q = w3.alloc (.cells #[.int .i64 g, .int .i64 r, .string lb, .int .i64 n, .int .i64 ix] 27) := ⟨_, rfl⟩
    have b4 : Below w3.heap.size w3 W4 := by rw [hW4]; exact (Below.refl _ w3).alloc (Nat.le_refl _) _
    have m4 := heap_alloc_new w3 (.cells #[.int .i64 g, .int .i64 r, .string lb, .int .i64 n, .int .i64 ix] 27)
    obtain ⟨Sb, hSb⟩ : ∃ q, q = w3.heap.size := ⟨_, rfl⟩
    rw [← hW4, ← hSb] at m4
    obtain ⟨e5, bw5⟩ := HC.out W4 (H3.out.trans (b4.mono H3.out.size))
    obtain ⟨u7, o7⟩ := set6 (.int .i64 g) (.int .i64 r) (.string lb) (.int .i64 n) (.int .i64 ix) (.string X) e5
    have b7 := Below.only bw5 o7 bw5.size (fun j e => by have e' : j = Rb := e; have := HW0.out.2; omega)
    have HE := hide (And.intro u7 b7)
    rw [← hW4, ← hSb]
    have s0 : World.cell? W4 ⟨Sb, 0, none⟩ = some (.int .i64 g) := (cell_of_row _ _ 0 _ 27 (0, 0) m4).trans rfl
    have s1 : World.cell? W4 ⟨Sb, 1, none⟩ = some (.int .i64 r) := (cell_of_row _ _ 1 _ 27 (0, 0) m4).trans rfl
    have s2 : World.cell? W4 ⟨Sb, 2, none⟩ = some (.string lb) := (cell_of_row _ _ 2 _ 27 (0, 0) m4).trans rfl
    have s3 : World.cell? W4 ⟨Sb, 3, none⟩ = some (.int .i64 n) := (cell_of_row _ _ 3 _ 27 (0, 0) m4).trans rfl
    have s4 : World.cell? W4 ⟨Sb, 4, none⟩ = some (.int .i64 ix) := (cell_of_row _ _ 4 _ 27 (0, 0) m4).trans rfl
    have d0 : World.cell? W4 ⟨Rb, 0, none⟩ = some (.int .i64 0) := (cell_of_row _ _ 0 _ 33 (0, 0) e5).trans rfl
    have d1 : World.cell? W4 ⟨Rb, 1, none⟩ = some (.int .i64 0) := (cell_of_row _ _ 1 _ 33 (0, 0) e5).trans rfl
    have d2 : World.cell? W4 ⟨Rb, 2, none⟩ = some (.string ⟨#[]⟩) := (cell_of_row _ _ 2 _ 33 (0, 0) e5).trans rfl
    have d3 : World.cell? W4 ⟨Rb, 3, none⟩ = some (.int .i64 0) := (cell_of_row _ _ 3 _ 33 (0, 0) e5).trans rfl
    have d4 : World.cell? W4 ⟨Rb, 4, none⟩ = some (.int .i64 0) := (cell_of_row _ _ 4 _ 33 (0, 0) e5).trans rfl
    have d5 : World.cell? W4 ⟨Rb, 5, none⟩ = some (.string ⟨#[]⟩) := (cell_of_row _ _ 5 _ 33 (0, 0) e5).trans rfl
    have g0 := frozen_of_row W4 Rb 0 _ 33 e5
    have g1 := frozen_of_row W4 Rb 1 _ 33 e5
    have g2 := frozen_of_row W4 Rb 2 _ 33 e5
    have g3 := frozen_of_row W4 Rb 3 _ 33 e5
    have g4 := frozen_of_row W4 Rb 4 _ 33 e5
    have g5 := frozen_of_row W4 Rb 5 _ 33 e5
    clear u7 o7 e5 bw5 b7 hW4 b4 m4 hSb kC kR kT
    go_wp2
    refine ret_row_tmpK Rb [.int .i64 g, .int .i64 r, .string lb, .int .i64 n, .int .i64 ix, .string X] rfl rfl rfl Tryz.underlying33 rfl T53 HE.out.1 rfl ?_
    exact ⟨by rw [HOF.out]; rfl, HE.out.2⟩
end Go.Proofs.YtkkpdgfllnbigaaGreatDoor.Tg
