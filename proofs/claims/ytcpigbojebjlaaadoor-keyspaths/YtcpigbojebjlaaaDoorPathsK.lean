/-
  THE STATEMENT's OWN copied AND left: a copy with a mark behind it; whether it stands, and that it is written over. A range over Fronts that may be left by a break.
-/
import Derived.Test.YtcpigbojebjlaaaDoorOrderM
import Derived.Test.YtcpigbojebjlaaaDoorRefSplit
import Derived.Test.YtcpigbojebjlaaaDoorRange
namespace Go.Proofs.YtcpigbojebjlaaaDoor
open Go.RowKit Go.Shelf
set_option linter.unusedSimpArgs false

theorem Os.store {w : World} {B n cap k : Nat} {ao : Option Addr} {L : List ByteArray} (h : Os w B (.slice ao n cap) L) (hk : k < L.length) :
    ∃ g, ao = some ⟨g, 0, none⟩ ∧ (∃ s, L[k]? = some s ∧ w.cell? ⟨g, k, none⟩ = some (.string s)) ∧ w.frozen? ⟨g, k, none⟩ = false ∧ B ≤ g ∧ g < w.heap.size ∧
      ∀ x, Os (w.setCell ⟨g, k, none⟩ (.string x)) B (.slice ao n cap) (L.set k x) ∧ w.grownBy (w.setCell ⟨g, k, none⟩ (.string x)) (some g) := by
  obtain ⟨ao', c', hv, -, hb, -, -⟩ := h.shape
  cases hv
  rcases h.2 with ⟨h1, h3⟩ | ⟨g, c, cur, h1, _⟩
  · omega
  · simp only [Value.slice.injEq] at h1
    obtain ⟨rfl, -, rfl⟩ := h1
    refine ⟨g, rfl, ⟨L[k], List.getElem?_eq_getElem hk, ?_⟩, World.ownsRow.frozenAt h k, (hb _ rfl).1, (hb _ rfl).2, fun x => ?_⟩
    · rw [World.ownsRow.cellAt h k (by omega), List.getElem?_map, List.getElem?_eq_getElem hk]; rfl
    · obtain ⟨r1, r2⟩ := World.ownsRow.stored h k (.string x)
      refine ⟨?_, r2⟩
      unfold Os
      rw [List.length_set]
      have : (L.set k x).map Value.string = (L.map Value.string).set k (.string x) := by simp [List.map_set]
      rw [this]
      exact r1

theorem wpList_turn {P : Program} {ops : Array Oper} {rest : List Oper} {o : Oper} {a : Act} {w w' : World} {Q : Exit → Act → World → Prop} {OP : Op} {T : TypeId} {v : Value} (hgd : o.guard = none) (ho : o.op = OP) (ht : o.type = T)
    (hy : (execOp a.eval { dst := none, op := OP, type := T, pos := "", after := #[], guard := none }).run P w = .ok (.value v) w') (h : wpList P ops Q rest (a.put o.dst v) w') : wpList P ops Q (o :: rest) a w :=
  wpList_plain hgd fun K hK => by
    unfold Oper.wp
    rw [exec_same a.eval o ho ht, hy]
    exact hK _ _ h
def markS : ByteArray := ⟨#[109, 97, 114, 107]⟩
set_option maxHeartbeats 1000000 in
set_option maxRecDepth 100000 in
theorem copied_any {w : World} {ao : Option Addr} {c : Nat} {l : List ByteArray} (h : Rs w ao l) (hn : ao = none → c = 0) (hl : l.length ≤ 200) :
    Calls Tryd.prog 22 #[.slice ao l.length c] w fun e w' => ∃ a' c', e = .returned (.slice a' l.length c') ∧ Os w' w.heap.size (.slice a' (l.length + 1) c') (l ++ [markS]) ∧ Below w.heap.size w w' := by
  obtain ⟨i0, hi, hz0, hz1, hz2⟩ := info_parts Tryd.info9
  obtain ⟨N, hN⟩ : ∃ N, N = l.length := ⟨_, rfl⟩
  obtain ⟨v1, w1, r1, hO1, b1⟩ := app1 (c := c) h hn (by omega) w.heap.size (Nat.le_refl _)
  rw [← hN] at r1 ⊢
  have hs1 := b1.size
  have hO1a := World.ownsRow.alloc hO1 (.cells #[.string markS] 9)
  obtain ⟨a1, c1, hv1, -⟩ := hO1.shape
  subst hv1
  have q1 : ∀ (j : Nat) (u : Value), [Value.string markS][j]? = some u → (w1.alloc (.cells #[.string markS] 9)).cell? ((⟨w1.heap.size, 0, none⟩ : Addr).add j) = some u := fun j u hj => by
    match j, hj with
    | 0, hj => simp at hj; subst hj; simp [Addr.add]
  obtain ⟨v2, w2, r2, h2, g2, -⟩ := run_append_own (P := Tryd.prog) (w1.alloc (.cells #[.string markS] 9)) w.heap.size 23 23 9 i0 (.string ⟨#[]⟩) 1 16 Tryd.underlying23 hi hz0 hz1 hz2 rfl (by decide) (.slice a1 l.length c1) l.length _ hO1a ⟨w1.heap.size, 0, none⟩ 1 1 [.string markS] rfl q1 (fun u hu => by simp at hu; subst hu; rfl) (by unfold maxLen; omega) (by omega) (by simp; omega)
  have hO2 : Os w2 w.heap.size v2 (l ++ [markS]) := by
    unfold Os
    rw [List.length_append, List.map_append]
    exact h2
  have hB2 : Below w.heap.size w w2 := (b1.alloc hs1 _).grown g2 (by simp; omega) (fun k hk => (World.ownsRow.lt hO1 k hk).1)
  obtain ⟨a2, c2, hv2, -, -, hn2, hc2⟩ := hO2.shape
  subst hv2
  rw [List.length_append, List.length_singleton] at hO2 r2 hc2
  rw [← hN] at hO2 r2 hc2
  have hsl := sliceS_hi (ao := a2) (n := N + 1) (c := c2) (j := N) (by omega) hn2 w2
  have hE : ∃ a' c', (Value.slice a2 N c2) = .slice a' N c' ∧ Os w2 w.heap.size (.slice a' (N + 1) c') (l ++ [markS]) ∧ Below w.heap.size w w2 := ⟨a2, c2, rfl, hO2, hB2⟩
  have HE := hide hE
  unfold markS at r2
  clear hE hO2 hB2 h2 g2 hO1 hO1a q1 hn2 hc2 b1 h hn
  rw [← hN] at r1
  clear hN hl
  go_enter Tryd.func22, Tryd.ntmps22
  go_wp2_with (first
    | (at_builtin; refine wpList_turn (OP := .call { callee := .builtin .append, args := #[.const (.slice none 0 0), .tmp 3], argTypes := #[23, 23] }) (T := 23) rfl rfl rfl (exec_append rfl rfl r1) ?_)
    | (at_builtin; refine wpList_turn (OP := .call { callee := .builtin .append, args := #[.tmp 4, .tmp 5], argTypes := #[23, 23] }) (T := 23) rfl rfl rfl (exec_append rfl rfl r2) ?_))
  go_ret
  obtain ⟨a', c', h1, h2⟩ := HE.out
  exact ⟨a', c', by rw [← h1]; rfl, h2⟩

set_option maxHeartbeats 1000000 in
set_option maxRecDepth 100000 in
theorem left_any {W : World} {B g c' c : Nat} {ao : Option Addr} {l : List ByteArray} (hO : Os W B (.slice (some ⟨g, 0, none⟩) (l.length + 1) c') (l ++ [markS])) (h : Rs W ao l) (hn : ao = none → c = 0) (hag : ∀ a, ao = some a → l ≠ [] → a.block ≠ g) (hl : l.length ≤ 200) :
    Calls Tryd.prog 27 #[.slice (some ⟨g, 0, none⟩) l.length c', .slice ao l.length c] W fun e w' => e = .returned (.bool true) ∧ Only (fun j => j = g) W w' := by
  obtain ⟨N, hN⟩ : ∃ N, N = l.length := ⟨_, rfl⟩
  rw [← hN] at hO ⊢
  obtain ⟨_, _, hv, -, -, -, hc2⟩ := hO.shape
  simp only [Value.slice.injEq] at hv
  obtain ⟨-, -, rfl⟩ := hv
  rw [List.length_append, List.length_singleton, ← hN] at hc2
  have hsl := sliceS_hi (ao := some ⟨g, 0, none⟩) (n := N) (c := c') (j := N + 1) (by omega) (by intro e; cases e) W
  rw [show ((N + 1 : Nat) : Int) = (N : Int) + 1 by omega] at hsl
  obtain ⟨g', hg', ⟨s', hs', hcm⟩, -⟩ := hO.store (k := N) (by rw [List.length_append, List.length_singleton]; omega)
  cases hg'
  obtain rfl : s' = markS := by
    rw [List.getElem?_append_right (by omega)] at hs'
    simp [← hN] at hs'
    exact hs'.symm
  have wN : IntKind.i64.wrap ((N : Int) + 1) = (N : Int) + 1 := by rw [IntKind.wrap_i64]; omega
  have zN : (N : Int) < (N : Int) + 1 := by omega
  have hmk : (markS.toList == [109, 97, 114, 107]) = true := by rw [ByteArray.toList_eq]; decide
  have HH := hide (And.intro hN (And.intro hO h))
  have hN2 : N ≤ 200 := by omega
  clear hN hO h hs'
  go_enter Tryd.func27, Tryd.ntmps27
  go_wp2
  go_loopw [5, 6] (fun v5 v6 wr => ∃ (i : Nat) (X : List ByteArray), i ≤ N ∧ v5 = .bool true ∧ v6 = .int .i64 i ∧ X.length = N + 1 ∧ Hid (Os wr B (.slice (some ⟨g, 0, none⟩) (N + 1) c') X) ∧ Hid (∀ j, i ≤ j → X[j]? = (l ++ [markS])[j]?) ∧ Hid (Only (fun j => j = g) W wr)) (fun _ v6 _ => N - (intOf v6).toNat)
  case atStart => exact ⟨0, l ++ [markS], by omega, rfl, rfl, by rw [List.length_append, List.length_singleton, ← HH.out.1], hide HH.out.2.1, hide (fun _ _ => rfl), hide (Only.refl _ _)⟩
  case round =>
    obtain ⟨i, X, hi, rfl, rfl, hX, HO, HE, HW⟩ := hrel
    by_cases hc : i < N
    · have z1 : (i : Int) < (N : Int) := by omega
      have hx : l[i]? = some (l[i]'(by rw [← HH.out.1]; exact hc)) := List.getElem?_eq_getElem _
      generalize l[i]'(by rw [← HH.out.1]; exact hc) = s at hx
      obtain ⟨ab, off, hao, hcx⟩ := (HH.out.2.2.only HW.out (fun a ha => hag a ha (fun e => by rw [e] at hx; cases hx))).at hx
      obtain ⟨g2, hg2, ⟨s2, hs2, hc2'⟩, hfz, hBg, hgs, hst⟩ := HO.out.store (k := i) (by omega)
      cases hg2
      have hss : s2 = s := by
        rw [HE.out i (Nat.le_refl _), List.getElem?_append_left (by rw [← HH.out.1]; exact hc), hx] at hs2
        exact (Option.some.inj hs2).symm
      subst hss
      have zg : ¬ ab = g := fun e => hag _ hao (fun e => by rw [e] at hx; cases hx) e
      have hstn : ∀ n, Os ((wr.drewN n).setCell ⟨g, i, none⟩ (.string ⟨#[111, 118, 101, 114]⟩)) B (.slice (some ⟨g, 0, none⟩) (N + 1) c') (X.set i ⟨#[111, 118, 101, 114]⟩) ∧ Only (fun j => j = g) W ((wr.drewN n).setCell ⟨g, i, none⟩ (.string ⟨#[111, 118, 101, 114]⟩)) := fun n => by
        have hOn : Os (wr.drewN n) B (.slice (some ⟨g, 0, none⟩) (N + 1) c') X := HO.out.below ⟨rfl, rfl, rfl, Nat.le_refl _, fun _ _ => rfl⟩
        obtain ⟨g3, hg3, -, -, -, -, hst3⟩ := hOn.store (k := i) (by omega)
        cases hg3
        refine ⟨(hst3 _).1, (HW.out.trans (Only.ofBelow (below_drew wr n)) (fun _ _ d => d.elim)).trans (Only.ofGrown (hst3 ⟨#[111, 118, 101, 114]⟩).2) (fun j _ e => by simpa using e.symm)⟩
      have hst' := hide hstn
      subst hao
      clear hst hs2 hx hag hstn
      have hfz2 : ∀ n, (wr.drewN n).frozen? ⟨g, i, none⟩ = false := fun n => hfz
      have hcc2 : ∀ n, (wr.drewN n).cell? ⟨g, i, none⟩ = some (.string s2) := fun n => hc2'
      go_wp2
      go_quiet (fail)
      go_wp2
      refine ⟨⟨i + 1, _, by omega, rfl, by go_num, by rw [List.length_set]; exact hX, hide (hst'.out _).1, hide (fun j hj => ?_), hide (hst'.out _).2⟩, ?_⟩
      · rw [List.getElem?_set_ne (by omega)]
        exact HE.out j (by omega)
      · have wi : wrap64 ((i : Int) + 1) = (i : Int) + 1 := by unfold wrap64; omega
        simp [intOf, wi]; omega
    · have z1 : ¬ (i : Int) < (N : Int) := by omega
      go_wp2
      go_ret
      exact ⟨rfl, HW.out⟩

/-- 'for p, k := range all { .. break .. }': both ways out go on alike. -/
theorem range_frb {a : Act} {w : World} {Q : Exit → Act → World → Prop} {g : Operand} {ps : Array Tmp} {assign body : Code} (id : Nat) (L : Nat) (ao : Option Addr) (c : Nat) (ks : List ByteArray)
    (hg : a.eval g = .func (.func 50) #[] #[.pointer (some ⟨L, 0, none⟩)]) (hps : ps.size = 2) (hL : KAt w L ao c ks) (hlen : ks.length ≤ 1000000)
    (D : Nat → Prop) (hDL : ¬ D L) (hDa : ∀ a, ao = some a → ¬ D a.block) (hDs : ¬ D w.heap.size) (hDt : ¬ D (w.heap.size + 1)) (hau : ∀ a, ao = some a → a.block < w.heap.size)
    (I : Nat → World → Prop) (Ix J : World → Prop) (hI : ∀ k W W', I k W → Only (fun j => j = w.heap.size + 1) W W' → I k W') (hIx : ∀ W W', Ix W → Only (fun j => j = w.heap.size + 1) W W' → Ix W') (h0 : I 0 w)
    (hround : ∀ k key v W0 W, ks[k]? = some key → I k W0 → Below W0.heap.size W0 W → Os W W0.heap.size v (ks.take k) → w.heap.size + 1 < W0.heap.size →
      assign.wpIn (Fence.wide.inRound (w.heap.size + 1)) 4 Tryd.prog (Exit.then (fun a1 W1 => Only (Turns D W0.heap.size v) W W1 ∧ ∀ W2, Only (fun j => j = w.heap.size + 1) W1 W2 → body.wpIn (Fence.wide.inRound (w.heap.size + 1)) 4 Tryd.prog (rpost (Turns D W0.heap.size v) I (fun cd W => cd = .exit id ∧ Ix W) W2 (k + 1)) a1 W2) (fun _ _ _ => False))
        { tmps := (ps.zip #[v, .string key]).foldl (fun t (p, v) => t.setIfInBounds p v) a.tmps, defers := [] } W)
    (hQ : ∀ a W, Q .normal a W → Q (.exit id) a W) (hJ1 : ∀ W, I ks.length W → J W) (hJ2 : ∀ W, Ix W → J W)
    (hdone : ∀ W, J W → w.heap.size < W.heap.size → W.heap[w.heap.size]? = some (.deferred (some [])) → Q .normal { a with defers := { target := .collected w.heap.size, args := #[] } :: a.defers } W) :
    (Code.rangeFunc g ps assign body).wp Tryd.prog Q a w := by
  refine range_fr (Q := Q) L ao c ks hg hps hL hlen D hDL hDa hDs hDt hau I (fun cd W => cd = .exit id ∧ Ix W) hI (fun c W W' h k => ⟨h.1, hIx W W' h.2 k⟩) h0 hround ?_ ?_
  · intro W hi hs hK
    exact hdone W (hJ1 W hi) hs hK
  · rintro c W ⟨rfl, hi⟩ hs hK
    exact wp_exit (hQ _ _ (hdone W (hJ2 W hi) hs hK))

/-- Behind k rounds of a turn: the count's box stands at N, ahead of which nothing has turned. -/
def TurnI (wN : World) (N : Nat) (k : Nat) (W : World) : Prop := Below N wN W ∧ W.heap[N]? = some (.cells #[.int .i64 (k : Int)] 3 (0, 0))
theorem TurnI.size {wN W : World} {N k : Nat} (h : TurnI wN N k W) : N < W.heap.size := (Array.getElem?_eq_some_iff.1 h.2).1
theorem TurnI.cell {wN W : World} {N k : Nat} (h : TurnI wN N k W) : W.cell? ⟨N, 0, none⟩ = some (.int .i64 (k : Int)) ∧ W.frozen? ⟨N, 0, none⟩ = false := ⟨by rw [cell_of_row _ _ 0 _ 3 (0, 0) h.2]; rfl, frozen_of_row _ _ 0 _ 3 h.2⟩
theorem TurnI.only {wN W W' : World} {N k : Nat} {Y : Nat → Prop} (h : TurnI wN N k W) (hY : ∀ j, Y j → N < j) (ho : Only Y W W') : TurnI wN N k W' :=
  ⟨Below.only h.1 ho (Nat.le_of_lt h.size) (fun j e => Nat.le_of_lt (hY j e)), (ho.block _ h.size (fun e => Nat.lt_irrefl _ (hY _ e))).trans h.2⟩
theorem TurnI.below {wN W W' : World} {N k : Nat} (h : TurnI wN N k W) (hb : Below W.heap.size W W') : TurnI wN N k W' := h.only (Y := fun _ => False) (fun _ e => e.elim) (Only.ofBelow hb)
theorem TurnI.count {wN W : World} {N k : Nat} (h : TurnI wN N k W) : TurnI wN N (k + 1) (W.setCell ⟨N, 0, none⟩ (.int .i64 ((k : Int) + 1))) := by
  refine ⟨Below.only h.1 (Only.ofGrown (grown_setCell W ⟨N, 0, none⟩ _)) (Nat.le_of_lt h.size) (fun j e => by cases e; exact Nat.le_refl _), ?_⟩
  rw [heap_setCell_same _ _ _ _ 3 _ h.2]
  simp
/-- The world behind the boxes of the statement KeysPaths. -/
def PW (w : World) (ao : Option Addr) (N c : Nat) (leave : Int) : World := ((w.alloc (.cells #[.slice ao N c] 23)).alloc (.cells #[.int .i64 leave] 3)).alloc (.cells #[.bool false] 4)
theorem PW_size (w : World) (ao : Option Addr) (N c : Nat) (leave : Int) : (PW w ao N c leave).heap.size = w.heap.size + 3 := by simp [PW]
theorem PW_below (w : World) (ao : Option Addr) (N c : Nat) (leave : Int) : Below w.heap.size w (PW w ao N c leave) := (((Below.refl _ w).alloc (Nat.le_refl _) _).alloc (by simp) _).alloc (by simp; omega) _
theorem PW_boxes (w : World) (ao : Option Addr) (N c : Nat) (leave : Int) (W : World) (h : Below (w.heap.size + 3) (PW w ao N c leave) W) : W.cell? ⟨w.heap.size, 0, none⟩ = some (.slice ao N c) ∧ W.cell? ⟨w.heap.size + 1, 0, none⟩ = some (.int .i64 leave) ∧ W.heap[w.heap.size + 1 + 1]? = some (.cells #[.bool false] 4 (0, 0)) := by
  obtain ⟨q1, q2⟩ := new2 w (.cells #[.slice ao N c] 23) (.cells #[.int .i64 leave] 3)
  have s2 : ((w.alloc (.cells #[.slice ao N c] 23)).alloc (.cells #[.int .i64 leave] 3)).heap.size = w.heap.size + 1 + 1 := by simp
  have q3 := heap_alloc_new ((w.alloc (.cells #[.slice ao N c] 23)).alloc (.cells #[.int .i64 leave] 3)) (.cells #[.bool false] 4)
  rw [s2] at q3
  have r1 : (PW w ao N c leave).heap[w.heap.size]? = some (.cells #[.slice ao N c] 23) := (Below.heap_alloc _ _ _ (by rw [s2]; omega)).trans q1
  have r2 : (PW w ao N c leave).heap[w.heap.size + 1]? = some (.cells #[.int .i64 leave] 3) := (Below.heap_alloc _ _ _ (by rw [s2]; omega)).trans q2
  have t1 := (h.block w.heap.size (by omega)).trans r1
  have t2 := (h.block (w.heap.size + 1) (by omega)).trans r2
  exact ⟨by rw [cell_of_row _ _ 0 _ 23 (0, 0) t1]; rfl, by rw [cell_of_row _ _ 0 _ 3 (0, 0) t2]; rfl, (h.block (w.heap.size + 1 + 1) (by omega)).trans q3⟩
end Go.Proofs.YtcpigbojebjlaaaDoor
