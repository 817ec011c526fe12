/-
  THE STATEMENT's OWN goes: All (or From), left behind some turns, and gone over again.
-/
import Derived.Test.YtleaaoknjflgoaaShared
import Derived.Test.YtleaaoknjflgoaaEntries2
import Derived.LoopN
import Derived.Deep.CutRange
namespace Go.Proofs.Ytleaaoknjflgoaa
open Go.RowKit Go.Shelf
set_option linter.unusedSimpArgs false
attribute [local go_sem] Oper.semAt_some

/-- 'for .. := range it { .. break .. }': both ways out go on alike. -/
theorem range_itb {α : Type} {a : Act} {w : World} {Q : Exit → Act → World → Prop} {g : Operand} {ps : Array Tmp} {assign body : Code} (id : Nat) (F : FuncId) (eg : Enters Try.prog F) (caps : Array Value) (xs : List α) (enc : α → Array Value) (K : Nat → Prop)
    (hit : Iter F caps xs enc K w) (hg : a.eval g = .func (.func F) #[] caps) (hps : ∀ x ∈ xs, (enc x).size = ps.size) (hK : ∀ j, K j → j < w.heap.size)
    (D : Nat → Prop) (hDK : ∀ j, D j → ¬ K j) (hD0 : ¬ D w.heap.size) (hD1 : ¬ D (w.heap.size + 1)) (hD2 : ¬ D (w.heap.size + 2)) (hD3 : ¬ D (w.heap.size + 3))
    (I : Nat → World → Prop) (Ix J : World → Prop) (hI : ∀ k W W', I k W → Only (fun j => j = w.heap.size + 1) W W' → I k W') (hIx : ∀ W W', Ix W → Only (fun j => j = w.heap.size + 1) W W' → Ix W') (h0 : I 0 w)
    (hround : ∀ c x W, xs[c]? = some x → I c W → Same K w W → w.heap.size + 4 ≤ W.heap.size →
      assign.wpIn (Fence.wide.inRound (w.heap.size + 1)) 4 Try.prog (Exit.then (fun a1 W1 => Only D W W1 ∧ ∀ W2, Only (fun j => j = w.heap.size + 1) W1 W2 → body.wpIn (Fence.wide.inRound (w.heap.size + 1)) 4 Try.prog (rpost D I (fun cd W => cd = .exit id ∧ Ix W) W2 (c + 1)) a1 W2) (fun _ _ _ => False))
        { tmps := (ps.zip (enc x)).foldl (fun t (p, v) => t.setIfInBounds p v) a.tmps, defers := [] } W)
    (hQ : ∀ a W, Q .normal a W → Q (.exit id) a W) (hJ1 : ∀ W, I xs.length W → J W) (hJ2 : ∀ W, Ix W → J W)
    (hdone : ∀ W, J W → w.heap.size < W.heap.size → W.heap[w.heap.size]? = some (.deferred (some [])) → Q .normal { a with defers := { target := .collected w.heap.size, args := #[] } :: a.defers } W) :
    (Code.rangeFunc g ps assign body).wp Try.prog Q a w := by
  refine range_it (Q := Q) F eg caps xs enc K hit hg hps hK D hDK hD0 hD1 hD2 hD3 I (fun cd W => cd = .exit id ∧ Ix W) hI (fun c W W' h k => ⟨h.1, hIx W W' h.2 k⟩) h0 hround ?_ ?_
  · intro W hi hs hk
    exact hdone W (hJ1 W hi) hs hk
  · rintro c W ⟨rfl, hi⟩ hs hk
    exact wp_exit (hQ _ _ (hdone W (hJ2 W hi) hs hk))
/-- Behind k rounds of a turn: the count's box stands at N, ahead of which nothing has turned. -/
def TurnI (wN : World) (N : Nat) (k : Nat) (W : World) : Prop := Below N wN W ∧ W.heap[N]? = some (.cells #[.int .i64 (k : Int)] 3 (0, 0))
theorem TurnI.size {wN W : World} {N k : Nat} (h : TurnI wN N k W) : N < W.heap.size := (Array.getElem?_eq_some_iff.1 h.2).1
theorem TurnI.cell {wN W : World} {N k : Nat} (h : TurnI wN N k W) : W.cell? ⟨N, 0, none⟩ = some (.int .i64 (k : Int)) ∧ W.frozen? ⟨N, 0, none⟩ = false := ⟨by rw [cell_of_row _ _ 0 _ 3 (0, 0) h.2]; rfl, frozen_of_row _ _ 0 _ 3 h.2⟩
theorem TurnI.only {wN W W' : World} {N k : Nat} {Y : Nat → Prop} (h : TurnI wN N k W) (hY : ∀ j, Y j → N < j) (ho : Only Y W W') : TurnI wN N k W' :=
  ⟨Below.only h.1 ho (Nat.le_of_lt h.size) (fun j e => Nat.le_of_lt (hY j e)), (ho.block _ h.size (fun e => Nat.lt_irrefl _ (hY _ e))).trans h.2⟩
theorem TurnI.count {wN W : World} {N k : Nat} (h : TurnI wN N k W) : TurnI wN N (k + 1) (W.setCell ⟨N, 0, none⟩ (.int .i64 ((k : Int) + 1))) := by
  refine ⟨Below.only h.1 (Only.ofGrown (grown_setCell W ⟨N, 0, none⟩ _)) (Nat.le_of_lt h.size) (fun j e => by cases e; exact Nat.le_refl _), ?_⟩
  rw [heap_setCell_same _ _ _ _ 3 _ h.2]
  simp
theorem fn_nil94 (f : Fn) (x y : Array Value) (w : World) : (binOp .eql 94 (.func f x y) .nilFunc).run Try.prog w = .ok (.bool false) w := by kernel_rfl
/-- What stands ahead of the turns. -/
structure GoesB (w W : World) (t : T) (k : ByteArray) (L1 LM : Nat) (ao : Option Addr) (N cap : Nat) (leave : Int) (l : List Nm) : Prop where
  low : Below w.heap.size w W
  bl : W.cell? ⟨w.heap.size + 1, 0, none⟩ = some (.slice ao N cap)
  bv : W.cell? ⟨w.heap.size + 1 + 1, 0, none⟩ = some (.int .i64 leave)
  br : W.heap[w.heap.size + 1 + 1 + 1]? = some (.cells #[.bool false] 4 (0, 0))
  b1 : W.cell? ⟨L1, 0, none⟩ = some (.string k)
  bm : W.cell? ⟨LM, 0, none⟩ = some t.ptr
  tree : In W t
  row : RnO W ao l
theorem GoesB.below {w W W' : World} {t : T} {k : ByteArray} {L1 LM : Nat} {ao : Option Addr} {N cap : Nat} {leave : Int} {l : List Nm} (h : GoesB w W t k L1 LM ao N cap leave l) (hb : Below W.heap.size W W') : GoesB w W' t k L1 LM ao N cap leave l :=
  ⟨h.low.trans (hb.mono h.low.size), cell_stays h.bl hb, cell_stays h.bv hb, (hb.block _ (Array.getElem?_eq_some_iff.1 h.br).1).trans h.br, cell_stays h.b1 hb, cell_stays h.bm hb, In.below hb h.tree, h.row.below hb⟩
theorem new4 (w : World) (o1 o2 o3 o4 : Obj) : ((((w.alloc o1).alloc o2).alloc o3).alloc o4).heap[w.heap.size]? = some o1 ∧ ((((w.alloc o1).alloc o2).alloc o3).alloc o4).heap[w.heap.size + 1]? = some o2 ∧ ((((w.alloc o1).alloc o2).alloc o3).alloc o4).heap[w.heap.size + 2]? = some o3 ∧ ((((w.alloc o1).alloc o2).alloc o3).alloc o4).heap[w.heap.size + 3]? = some o4 ∧ Below w.heap.size w ((((w.alloc o1).alloc o2).alloc o3).alloc o4) ∧ ((((w.alloc o1).alloc o2).alloc o3).alloc o4).heap.size = w.heap.size + 4 := by
  obtain ⟨h1, h2, h3, hb⟩ := new3 w o1 o2 o3
  have s3 : (((w.alloc o1).alloc o2).alloc o3).heap.size = w.heap.size + 3 := by simp
  refine ⟨(Below.heap_alloc _ _ _ (by rw [s3]; omega)).trans h1, (Below.heap_alloc _ _ _ (by rw [s3]; omega)).trans h2, (Below.heap_alloc _ _ _ (by rw [s3]; omega)).trans h3, ?_, hb.alloc (by rw [s3]; omega) _, by simp⟩
  have := heap_alloc_new (((w.alloc o1).alloc o2).alloc o3) o4
  rw [s3] at this
  exact this

set_option maxHeartbeats 8000000 in
set_option maxRecDepth 100000 in
theorem goes_any (t : T) (l : List Nm) (sv : Value) (leave : Int) (all : Bool) (k : ByteArray) (w : World) (ht : In w t) (hs : Srt t.list) (he : Es w sv l) (hl : l.length ≤ 100000) (hx : (if all then t.list else t.from k) = l) :
    Calls Try.prog 39 #[mv t, sv, .int .i64 leave, .bool all, .string k] w fun e w' => e = .returned (.bool true) ∧ Below w.heap.size w w' := by
  obtain ⟨ao, cap, rfl, hr, hc, hn, ha⟩ := he.ex
  obtain ⟨N, hN⟩ : ∃ N, N = l.length := ⟨_, rfl⟩
  rw [← hN] at hl ⊢
  obtain ⟨m0, m1, m2, m3, hb4, hs4⟩ := new4 w (.cells #[t.ptr] 26) (.cells #[.slice ao N cap] 27) (.cells #[.int .i64 leave] 3) (.cells #[.bool false] 4)
  obtain ⟨w4, hw4⟩ : ∃ w4, w4 = (((w.alloc (.cells #[t.ptr] 26)).alloc (.cells #[.slice ao N cap] 27)).alloc (.cells #[.int .i64 leave] 3)).alloc (.cells #[.bool false] 4) := ⟨_, rfl⟩
  rw [← hw4] at m0 m1 m2 m3 hb4 hs4
  have hf := mFrom_any t k w4
  rw [hs4] at hf
  have hbase : ∀ W L1 LM kk, Below w4.heap.size w4 W → W.cell? ⟨L1, 0, none⟩ = some (.string kk) → W.cell? ⟨LM, 0, none⟩ = some t.ptr → GoesB w W t kk L1 LM ao N cap leave l := fun W L1 LM kk hb h1 hm => by
    have hbw := hb4.trans (hb.mono hb4.size)
    refine ⟨hbw, ?_, ?_, (hb.block _ (by omega)).trans m3, h1, hm, In.below hbw ht, hr.below hbw⟩
    · rw [cell_of_row _ _ 0 _ 27 (0, 0) ((hb.block _ (by omega)).trans m1)]; rfl
    · rw [cell_of_row _ _ 0 _ 3 (0, 0) ((hb.block _ (by omega)).trans m2)]; rfl
  obtain ⟨w6, hw6⟩ : ∃ w6, w6 = (w4.alloc (.cells #[t.ptr] 26)).alloc (.cells #[.string k] 9) := ⟨_, rfl⟩
  obtain ⟨f0, f1⟩ := new2 w4 (.cells #[t.ptr] 26) (.cells #[.string k] 9)
  rw [← hw6, hs4] at f0 f1
  rw [← hw6] at hf
  have hb6 : Below w4.heap.size w4 w6 := by rw [hw6]; exact ((Below.refl _ w4).alloc (Nat.le_refl _) _).alloc (by simp) _
  have hs6 : w6.heap.size = w.heap.size + 6 := by rw [hw6]; simp [hs4]
  have hG6 := hbase w6 (w.heap.size + 4 + 1) (w.heap.size + 4) k hb6 (by rw [cell_of_row _ _ 0 _ 9 (0, 0) f1]; rfl) (by rw [cell_of_row _ _ 0 _ 26 (0, 0) f0]; rfl)
  have m0c : w6.cell? ⟨w.heap.size, 0, none⟩ = some t.ptr := by rw [cell_of_row _ _ 0 _ 26 (0, 0) ((hb6.block _ (by omega)).trans m0)]; rfl
  have hfa := mAll_any t w6
  rw [hs6] at hfa
  obtain ⟨w9, hw9⟩ : ∃ w9, w9 = ((w6.alloc (.cells #[t.ptr] 26)).alloc (.cells #[t.ptr] 26)).alloc (.cells #[.string ⟨#[]⟩] 9) := ⟨_, rfl⟩
  obtain ⟨g0, g1, g2, hb9⟩ := new3 w6 (.cells #[t.ptr] 26) (.cells #[t.ptr] 26) (.cells #[.string ⟨#[]⟩] 9)
  rw [← hw9] at g0 g1 g2 hb9 hfa
  rw [hs6] at g1 g2
  have hG9 := hbase w9 (w.heap.size + 6 + 2) (w.heap.size + 6 + 1) ⟨#[]⟩ (hb6.trans (hb9.mono hb6.size)) (by rw [cell_of_row _ _ 0 _ 9 (0, 0) g2]; rfl) (by rw [cell_of_row _ _ 0 _ 26 (0, 0) g1]; rfl)
  have hs9 : w9.heap.size = w.heap.size + 9 := by rw [hw9]; simp [hs6]
  have hxs : (all = true → t.from ⟨#[]⟩ = l) ∧ (all = false → t.from k = l) := by
    constructor
    · rintro rfl
      rw [all_is hs]
      exact hx
    · rintro rfl
      exact hx
  have HA := hide ha
  have HN := hide (And.intro hN (And.intro hr hxs))
  obtain ⟨a, hat⟩ := t.ptr_shape
  have HT := hide hat
  unfold mv at *
  rw [hat] at hf hfa m0c hw4 ⊢
  have HW4 := hide hw4
  rw [hw4] at hf
  clear hw4 hw6 hw9 f0 f1 g0 g1 g2 hb4 hbase m0 m1 m2 m3 hb9 hb6 hr hxs hc hn ha hN hat hx he hs hs4
  have HTW := hide (show ∀ j, t.blk j → j < w.heap.size from fun j hj => ht.blk_lt hj)
  clear ht
  have HSZ := hide (And.intro hs6 hs9)
  clear hs6 hs9
  cases all with
  | true =>
    have hxs : t.from ⟨#[]⟩ = l := HN.out.2.2.1 rfl
    have HXS := hide hxs
    have HG := hide hG9
    have hfn := fun f x y W => fn_nil94 f x y W
    clear hG6 hG9 hxs
    refine calls_marks Try.func39 rfl ?_
    simp only [Try.ntmps39, List.size_toArray, List.length_cons, List.length_nil, Nat.reduceAdd, Nat.reduceSub, Array.replicate_succ, Array.replicate_zero, List.push_toArray, List.append_toArray, List.nil_append, List.cons_append]
    go_wp2_with (first | (go_at_call 56; refine hf.mono ?_; rintro e w' ⟨rfl, hw⟩; replace hw := hw.symm; subst hw) | (go_at_call 57; refine hfa.mono ?_; rintro e w' ⟨rfl, hw⟩; replace hw := hw.symm; subst hw))
    clear hf hfa m0c
    refine wp_loop_rounds 3 ?_
    rw [rounds_succ]
    go_wp2
    have HB0 : Hid (Below w9.heap.size w9 w9) := hide (Below.refl _ _)
    obtain ⟨wN0, hwN⟩ : ∃ wN, w9.alloc (.cells #[.int .i64 0] 3) = wN := ⟨_, rfl⟩
    have hsN0 : wN0.heap.size = w9.heap.size + 1 := by rw [← hwN]; simp
    have hTc : wN0.cell? ⟨w9.heap.size, 0, none⟩ = some (.int .i64 0) := by rw [← hwN, cell_of_row _ _ 0 _ 3 (0, 0) (heap_alloc_new w9 _)]; rfl
    have bN : Below w9.heap.size w9 wN0 := by rw [← hwN]; exact (Below.refl _ w9).alloc (Nat.le_refl _) _
    rw [hwN]
    clear hwN
    obtain ⟨wA0, hwA⟩ : ∃ wA, wN0.alloc (.cells #[.int .i64 0] 3) = wA := ⟨_, rfl⟩
    have hsA0 : wA0.heap.size = w9.heap.size + 1 + 1 := by rw [← hwA]; simp [hsN0]
    have bA : Below wN0.heap.size wN0 wA0 := by rw [← hwA]; exact (Below.refl _ wN0).alloc (Nat.le_refl _) _
    have hI0 : TurnI wN0 (w9.heap.size + 1) 0 wA0 := ⟨by rw [← hsN0]; exact bA, by rw [← hsN0, ← hwA]; exact heap_alloc_new wN0 _⟩
    rw [hwA]
    clear hwA
    have bcN0 : Below w9.heap.size w9 wN0 := HB0.out.trans (bN.mono (by have := HB0.out.size; omega))
    have HF0 : Hid (∀ W, Below (w9.heap.size + 1) wN0 W → GoesB w W t ⟨#[]⟩ (w.heap.size + 6 + 2) (w.heap.size + 6 + 1) ao N cap leave l ∧ W.cell? ⟨w9.heap.size, 0, none⟩ = some (.int .i64 0) ∧ Below w9.heap.size w9 W) := hide (fun W hW => by
      have q1 : Below w9.heap.size w9 W := bcN0.trans (hW.mono (by have := HB0.out.size; omega))
      exact ⟨HG.out.below q1, (hW.cell (by simp)).trans hTc, q1⟩)
    obtain ⟨GA, -, bwA⟩ := HF0.out wA0 (by rw [← hsN0]; exact bA)
    have hit := iter_from t ⟨#[]⟩ (w.heap.size + 6 + 2) (w.heap.size + 6 + 1) wA0 GA.tree GA.b1 GA.bm
    have hlow := GA.low.size
    have hbB := HB0.out.size
    have hKlt : ∀ j, KF t (w.heap.size + 6 + 2) (w.heap.size + 6 + 1) j → j < w9.heap.size := fun j hj => by
      rcases hj with rfl | rfl | hj
      · have := HSZ.out; omega
      · have := HSZ.out; omega
      · have := HTW.out j hj; have := HSZ.out; omega
    have bN0 := hide bN
    clear GA bwA bA bN hTc
    refine range_itb (Q := _) 2 68 enters68 _ (t.from ⟨#[]⟩) (fun x => #[.string x.1, .int .i64 x.2]) _ hit rfl (fun _ _ => rfl) (fun j hj => by have := hKlt j hj; omega) (fun j => j = w9.heap.size + 1) (fun j e hj => by have := hKlt j hj; omega) (by omega) (by omega) (by omega) (by omega)
      (TurnI wN0 (w9.heap.size + 1)) (fun W => ((0 : Nat) = 0) ∧ ∃ k : Nat, (k : Int) = leave ∧ TurnI wN0 (w9.heap.size + 1) k W) (fun W => ∃ k : Nat, (k = N ∨ ((0 : Nat) = 0 ∧ (k : Int) = leave)) ∧ TurnI wN0 (w9.heap.size + 1) k W)
      (fun k W W' hi ho => hi.only (by intro j e; omega) ho) (fun W W' hi ho => ⟨hi.1, hi.2.choose, hi.2.choose_spec.1, hi.2.choose_spec.2.only (by intro j e; omega) ho⟩) hI0 ?hround (fun _ _ h => h) (fun W h => ⟨_, .inl (by rw [HXS.out]; exact HN.out.1.symm), h⟩) (fun W h => ⟨_, .inr ⟨h.1, h.2.choose_spec.1⟩, h.2.choose_spec.2⟩) ?hdone
    case hround =>
      intro c x W hx hi hS hsz
      rw [HXS.out] at hx
      have hcl : c < N := by rw [HN.out.1]; exact (List.getElem?_eq_some_iff.1 hx).1
      have z1 : (c : Int) < (N : Int) := by omega
      have z2 : ¬ (N : Int) ≤ (c : Int) := by omega
      clear hit hKlt hI0 hS
      gi_wp2
      refine ⟨Only.refl _ W, fun W2 ho2 => ?_⟩
      have hi2 : TurnI wN0 (w9.heap.size + 1) c W2 := hi.only (by intro j e; omega) ho2
      obtain ⟨G2, tc, -⟩ := HF0.out W2 hi2.1
      obtain ⟨rb, off, hao, q0, q1⟩ := G2.row.at HA.out hx
      obtain ⟨n0, n1⟩ := hi2.cell
      have bl := G2.bl
      have bv := G2.bv
      have hset := Only.ofGrown (grown_setCell W2 ⟨w9.heap.size + 1, 0, none⟩ (.int .i64 ((c : Int) + 1)))
      have hset2 : Only (fun j => j = w9.heap.size + 1) W2 (W2.setCell ⟨w9.heap.size + 1, 0, none⟩ (.int .i64 ((c : Int) + 1))) := hset.mono (fun j _ e => by simpa using e.symm)
      have tc2 := hset2.cell tc (by simp only; omega)
      have hszz := HSZ.out
      have bv2 := hset2.cell bv (by simp only; omega)
      clear hszz
      have nc2 := hi2.count.cell.1
      have e0 : ((c + 1 : Nat) : Int) = (c : Int) + 1 := by omega
      rw [e0] at nc2
      have HC := hide (And.intro hset2 hi2.count)
      rw [hao] at bl
      clear hi hi2 G2 ho2 hx hset hset2 e0 hao hcl hsz
      by_cases hlv : ((c : Int) + 1) = leave
      · have d1 : (((c : Int) + 1) == leave) = true := by simpa using hlv
        have HL := hide hlv
        clear hlv
        gi_wp2
        exact ⟨HC.out.1, rfl, c + 1, by first | exact HL.out | (have := HL.out; omega), HC.out.2⟩
      · have d1 : (((c : Int) + 1) == leave) = false := by simpa using hlv
        clear hlv
        gi_wp2
        exact HC.out
    case hdone =>
      intro wv hJ hlsv hK0
      obtain ⟨j, hj, hi⟩ := hJ
      obtain ⟨G1, tc, eC⟩ := HF0.out wv hi.1
      have n0 := hi.cell.1
      have bl := G1.bl
      have bv := G1.bv
      have HB1 : Hid (Below w9.heap.size w9 wv) := hide eC
      have HV := hide hK0
      have hor2 : (((j : Int) == (N : Int)) = true ∧ ((j : Int) != (N : Int)) = false) ∨ (((j : Int) == (N : Int)) = false ∧ ((j : Int) != (N : Int)) = true ∧ ((j : Int) == leave) = true ∧ ((j : Int) != leave) = false) := by
        by_cases hjN : j = N
        · left; rw [hjN]; simp
        · right
          rcases hj with e | ⟨-, e⟩
          · exact absurd e hjN
          · refine ⟨by rw [beq_eq_false_iff_ne]; omega, ?_, by simpa using e, ?_⟩
            · rw [bne_iff_ne]; omega
            · rw [bne, show ((j : Int) == leave) = true by simpa using e]; rfl
      clear hit hKlt hI0 hi hj G1 eC hK0
      go_upto_region 17 with fail
      go_cut [74] from 62 to 74 (fun v74 wq => v74 = .bool false ∧ wq = wv)
      case first =>
        rcases hor2 with ⟨q1, q2⟩ | ⟨q1, q2, q3, q4⟩
        · go_wp2
          go_meet
          exact ⟨rfl, rfl⟩
        · go_wp2
          go_meet
          exact ⟨rfl, rfl⟩
      case rest =>
        obtain ⟨rfl, hwf⟩ := hcut
        replace hwf := hwf.symm
        subst hwf
        clear hor2 n0 bl bv
        go_wp2
        rw [rounds_succ]
        go_wp2
        obtain ⟨wN1, hwN⟩ : ∃ wN, wv.alloc (.cells #[.int .i64 1] 3) = wN := ⟨_, rfl⟩
        have hsN1 : wN1.heap.size = wv.heap.size + 1 := by rw [← hwN]; simp
        have hTc : wN1.cell? ⟨wv.heap.size, 0, none⟩ = some (.int .i64 1) := by rw [← hwN, cell_of_row _ _ 0 _ 3 (0, 0) (heap_alloc_new wv _)]; rfl
        have bN : Below wv.heap.size wv wN1 := by rw [← hwN]; exact (Below.refl _ wv).alloc (Nat.le_refl _) _
        rw [hwN]
        clear hwN
        obtain ⟨wA1, hwA⟩ : ∃ wA, wN1.alloc (.cells #[.int .i64 0] 3) = wA := ⟨_, rfl⟩
        have hsA1 : wA1.heap.size = wv.heap.size + 1 + 1 := by rw [← hwA]; simp [hsN1]
        have bA : Below wN1.heap.size wN1 wA1 := by rw [← hwA]; exact (Below.refl _ wN1).alloc (Nat.le_refl _) _
        have hI0 : TurnI wN1 (wv.heap.size + 1) 0 wA1 := ⟨by rw [← hsN1]; exact bA, by rw [← hsN1, ← hwA]; exact heap_alloc_new wN1 _⟩
        rw [hwA]
        clear hwA
        have bcN1 : Below w9.heap.size w9 wN1 := HB1.out.trans (bN.mono (by have := HB1.out.size; omega))
        have HF1 : Hid (∀ W, Below (wv.heap.size + 1) wN1 W → GoesB w W t ⟨#[]⟩ (w.heap.size + 6 + 2) (w.heap.size + 6 + 1) ao N cap leave l ∧ W.cell? ⟨wv.heap.size, 0, none⟩ = some (.int .i64 1) ∧ Below w9.heap.size w9 W) := hide (fun W hW => by
          have q1 : Below w9.heap.size w9 W := bcN1.trans (hW.mono (by have := HB1.out.size; omega))
          exact ⟨HG.out.below q1, (hW.cell (by simp)).trans hTc, q1⟩)
        obtain ⟨GA, -, bwA⟩ := HF1.out wA1 (by rw [← hsN1]; exact bA)
        have hit := iter_from t ⟨#[]⟩ (w.heap.size + 6 + 2) (w.heap.size + 6 + 1) wA1 GA.tree GA.b1 GA.bm
        have hlow := GA.low.size
        have hbB := HB1.out.size
        have hKlt : ∀ j, KF t (w.heap.size + 6 + 2) (w.heap.size + 6 + 1) j → j < wv.heap.size := fun j hj => by
          rcases hj with rfl | rfl | hj
          · have := HSZ.out; omega
          · have := HSZ.out; omega
          · have := HTW.out j hj; have := HSZ.out; omega
        have bN1 := hide bN
        clear GA bwA bA bN hTc
        refine range_itb (Q := _) 2 68 enters68 _ (t.from ⟨#[]⟩) (fun x => #[.string x.1, .int .i64 x.2]) _ hit rfl (fun _ _ => rfl) (fun j hj => by have := hKlt j hj; omega) (fun j => j = wv.heap.size + 1) (fun j e hj => by have := hKlt j hj; omega) (by omega) (by omega) (by omega) (by omega)
          (TurnI wN1 (wv.heap.size + 1)) (fun W => ((1 : Nat) = 0) ∧ ∃ k : Nat, (k : Int) = leave ∧ TurnI wN1 (wv.heap.size + 1) k W) (fun W => ∃ k : Nat, (k = N ∨ ((1 : Nat) = 0 ∧ (k : Int) = leave)) ∧ TurnI wN1 (wv.heap.size + 1) k W)
          (fun k W W' hi ho => hi.only (by intro j e; omega) ho) (fun W W' hi ho => ⟨hi.1, hi.2.choose, hi.2.choose_spec.1, hi.2.choose_spec.2.only (by intro j e; omega) ho⟩) hI0 ?hround (fun _ _ h => h) (fun W h => ⟨_, .inl (by rw [HXS.out]; exact HN.out.1.symm), h⟩) (fun W h => ⟨_, .inr ⟨h.1, h.2.choose_spec.1⟩, h.2.choose_spec.2⟩) ?hdone
        case hround =>
          intro c x W hx hi hS hsz
          rw [HXS.out] at hx
          have hcl : c < N := by rw [HN.out.1]; exact (List.getElem?_eq_some_iff.1 hx).1
          have z1 : (c : Int) < (N : Int) := by omega
          have z2 : ¬ (N : Int) ≤ (c : Int) := by omega
          clear hit hKlt hI0 hS
          gi_wp2
          refine ⟨Only.refl _ W, fun W2 ho2 => ?_⟩
          have hi2 : TurnI wN1 (wv.heap.size + 1) c W2 := hi.only (by intro j e; omega) ho2
          obtain ⟨G2, tc, -⟩ := HF1.out W2 hi2.1
          obtain ⟨rb, off, hao, q0, q1⟩ := G2.row.at HA.out hx
          obtain ⟨n0, n1⟩ := hi2.cell
          have bl := G2.bl
          have bv := G2.bv
          have hset := Only.ofGrown (grown_setCell W2 ⟨wv.heap.size + 1, 0, none⟩ (.int .i64 ((c : Int) + 1)))
          have hset2 : Only (fun j => j = wv.heap.size + 1) W2 (W2.setCell ⟨wv.heap.size + 1, 0, none⟩ (.int .i64 ((c : Int) + 1))) := hset.mono (fun j _ e => by simpa using e.symm)
          have tc2 := hset2.cell tc (by simp only; omega)
          have hszz := HSZ.out
          have bv2 := hset2.cell bv (by simp only; omega)
          clear hszz
          have nc2 := hi2.count.cell.1
          have e0 : ((c + 1 : Nat) : Int) = (c : Int) + 1 := by omega
          rw [e0] at nc2
          have HC := hide (And.intro hset2 hi2.count)
          rw [hao] at bl
          clear hi hi2 G2 ho2 hx hset hset2 e0 hao hcl hsz
          gi_wp2
          exact HC.out
        case hdone =>
          intro wx hJ hlsx hK1
          obtain ⟨j, hj, hiX⟩ := hJ
          obtain ⟨G3, tc3, eC⟩ := HF1.out wx hiX.1
          have n0 := hiX.cell.1
          have bl := G3.bl
          have hjN : j = N := by
            rcases hj with e | ⟨e, -⟩
            · exact e
            · exact absurd e (by decide)
          have e1 : ((j : Int) == (N : Int)) = true := by rw [hjN, beq_self_eq_true]
          have e2 : ((j : Int) != (N : Int)) = false := by rw [bne, e1]; rfl
          have hsx1 : wv.heap.size + 1 < wx.heap.size := hiX.size
          have hK01 : wx.heap[wA0.heap.size]? = some (.deferred (some [])) := (hiX.1.block _ (by omega)).trans ((bN1.out.block _ hlsv).trans HV.out)
          have b9 : Below wx.heap.size wx (wx.alloc (.cells #[.int .i64 2] 3)) := (Below.refl _ wx).alloc (Nat.le_refl _) _
          have G9 := G3.below b9
          have q3 : ((wx.alloc (.cells #[.int .i64 2] 3))).heap[w.heap.size + 1 + 1 + 1]? = some (.cells #[.bool false] 4 (0, 0)) := G9.br
          have br0 : (wx.alloc (.cells #[.int .i64 2] 3)).cell? ⟨w.heap.size + 1 + 1 + 1, 0, none⟩ = some (.bool false) := by rw [cell_of_row _ _ 0 _ 4 (0, 0) q3]; rfl
          have br1 : (wx.alloc (.cells #[.int .i64 2] 3)).frozen? ⟨w.heap.size + 1 + 1 + 1, 0, none⟩ = false := frozen_of_row _ _ 0 _ 4 q3
          have brx : wx.heap[w.heap.size + 1 + 1 + 1]? = some (.cells #[.bool false] 4 (0, 0)) := G3.br
          have br2 : wx.cell? ⟨w.heap.size + 1 + 1 + 1, 0, none⟩ = some (.bool false) := by rw [cell_of_row _ _ 0 _ 4 (0, 0) brx]; rfl
          have br3 : wx.frozen? ⟨w.heap.size + 1 + 1 + 1, 0, none⟩ = false := frozen_of_row _ _ 0 _ 4 brx
          have hlowx := G3.low
          have HX := hide (And.intro hK01 (And.intro hK1 (And.intro b9 (And.intro G9 (And.intro brx hlowx)))))
          clear hit hKlt hI0 hiX hj hjN G3 G9 eC hK1 hK01 q3 brx b9 hlowx
          go_wp2
          rw [rounds_succ]
          go_wp2
          obtain ⟨hK01, hK1, b9, G9, brx, hlowx⟩ := HX.out
          generalize wx.alloc (.cells #[.int .i64 2] 3) = wy at *
          have hsy := b9.size
          have hs4 := HSZ.out
          have q3 := G9.br
          have k0 := (b9.block _ (Array.getElem?_eq_some_iff.1 hK01).1).trans hK01
          have k1 := (b9.block _ (Array.getElem?_eq_some_iff.1 hK1).1).trans hK1
          have hset := Only.ofGrown (grown_setCell wy ⟨w.heap.size + 1 + 1 + 1, 0, none⟩ (.bool true))
          have hx0 := (hset.block wA0.heap.size (Array.getElem?_eq_some_iff.1 k0).1 (by intro e; have e' : w.heap.size + 1 + 1 + 1 = wA0.heap.size := (by injection e); omega)).trans k0
          have hx1 := (hset.block wA1.heap.size (Array.getElem?_eq_some_iff.1 k1).1 (by intro e; have e' : w.heap.size + 1 + 1 + 1 = wA1.heap.size := (by injection e); omega)).trans k1
          have hcell : (wy.setCell ⟨w.heap.size + 1 + 1 + 1, 0, none⟩ (.bool true)).cell? ⟨w.heap.size + 1 + 1 + 1, 0, none⟩ = some (.bool true) := by rw [cell_of_row _ _ 0 _ 4 (0, 0) (heap_setCell_same _ _ _ _ 4 _ q3)]; rfl
          have hB6 : Below w.heap.size w (wy.setCell ⟨w.heap.size + 1 + 1 + 1, 0, none⟩ (.bool true)) := G9.low.setCell (by simp only; omega) _
          have o1 := only_putObj (wy.setCell ⟨w.heap.size + 1 + 1 + 1, 0, none⟩ (.bool true)) wA1.heap.size (.deferred none)
          have hx0' := (o1.block wA0.heap.size (Array.getElem?_eq_some_iff.1 hx0).1 (by omega)).trans hx0
          have o2 := only_putObj ((wy.setCell ⟨w.heap.size + 1 + 1 + 1, 0, none⟩ (.bool true)).putObj wA1.heap.size (.deferred none)) wA0.heap.size (.deferred none)
          exact leave_mark (fn := Try.f39) hx1 (leave_mark hx0' (leave_cell (w.heap.size + 1 + 1 + 1) (x := true) rfl rfl (o2.cell (o1.cell hcell (by simp only; omega)) (by simp only; omega)) ⟨rfl, Below.only (Below.only hB6 o1 hB6.size (by intro j e; omega)) o2 (by have := hB6.size; simpa using this) (by intro j e; omega)⟩))
  | false =>
    have hxs : t.from k = l := HN.out.2.2.2 rfl
    have HXS := hide hxs
    have HG := hide hG6
    have hfn := fun f x y W => fn_nil94 f x y W
    clear hG6 hG9 hxs
    refine calls_marks Try.func39 rfl ?_
    simp only [Try.ntmps39, List.size_toArray, List.length_cons, List.length_nil, Nat.reduceAdd, Nat.reduceSub, Array.replicate_succ, Array.replicate_zero, List.push_toArray, List.append_toArray, List.nil_append, List.cons_append]
    go_wp2_with ((go_at_call 56; refine hf.mono ?_; rintro e w' ⟨rfl, hw⟩; replace hw := hw.symm; subst hw))
    clear hf hfa m0c
    refine wp_loop_rounds 3 ?_
    rw [rounds_succ]
    go_wp2
    have HB0 : Hid (Below w6.heap.size w6 w6) := hide (Below.refl _ _)
    obtain ⟨wN0, hwN⟩ : ∃ wN, w6.alloc (.cells #[.int .i64 0] 3) = wN := ⟨_, rfl⟩
    have hsN0 : wN0.heap.size = w6.heap.size + 1 := by rw [← hwN]; simp
    have hTc : wN0.cell? ⟨w6.heap.size, 0, none⟩ = some (.int .i64 0) := by rw [← hwN, cell_of_row _ _ 0 _ 3 (0, 0) (heap_alloc_new w6 _)]; rfl
    have bN : Below w6.heap.size w6 wN0 := by rw [← hwN]; exact (Below.refl _ w6).alloc (Nat.le_refl _) _
    rw [hwN]
    clear hwN
    obtain ⟨wA0, hwA⟩ : ∃ wA, wN0.alloc (.cells #[.int .i64 0] 3) = wA := ⟨_, rfl⟩
    have hsA0 : wA0.heap.size = w6.heap.size + 1 + 1 := by rw [← hwA]; simp [hsN0]
    have bA : Below wN0.heap.size wN0 wA0 := by rw [← hwA]; exact (Below.refl _ wN0).alloc (Nat.le_refl _) _
    have hI0 : TurnI wN0 (w6.heap.size + 1) 0 wA0 := ⟨by rw [← hsN0]; exact bA, by rw [← hsN0, ← hwA]; exact heap_alloc_new wN0 _⟩
    rw [hwA]
    clear hwA
    have bcN0 : Below w6.heap.size w6 wN0 := HB0.out.trans (bN.mono (by have := HB0.out.size; omega))
    have HF0 : Hid (∀ W, Below (w6.heap.size + 1) wN0 W → GoesB w W t k (w.heap.size + 4 + 1) (w.heap.size + 4) ao N cap leave l ∧ W.cell? ⟨w6.heap.size, 0, none⟩ = some (.int .i64 0) ∧ Below w6.heap.size w6 W) := hide (fun W hW => by
      have q1 : Below w6.heap.size w6 W := bcN0.trans (hW.mono (by have := HB0.out.size; omega))
      exact ⟨HG.out.below q1, (hW.cell (by simp)).trans hTc, q1⟩)
    obtain ⟨GA, -, bwA⟩ := HF0.out wA0 (by rw [← hsN0]; exact bA)
    have hit := iter_from t k (w.heap.size + 4 + 1) (w.heap.size + 4) wA0 GA.tree GA.b1 GA.bm
    have hlow := GA.low.size
    have hbB := HB0.out.size
    have hKlt : ∀ j, KF t (w.heap.size + 4 + 1) (w.heap.size + 4) j → j < w6.heap.size := fun j hj => by
      rcases hj with rfl | rfl | hj
      · have := HSZ.out; omega
      · have := HSZ.out; omega
      · have := HTW.out j hj; have := HSZ.out; omega
    have bN0 := hide bN
    clear GA bwA bA bN hTc
    refine range_itb (Q := _) 2 68 enters68 _ (t.from k) (fun x => #[.string x.1, .int .i64 x.2]) _ hit rfl (fun _ _ => rfl) (fun j hj => by have := hKlt j hj; omega) (fun j => j = w6.heap.size + 1) (fun j e hj => by have := hKlt j hj; omega) (by omega) (by omega) (by omega) (by omega)
      (TurnI wN0 (w6.heap.size + 1)) (fun W => ((0 : Nat) = 0) ∧ ∃ k : Nat, (k : Int) = leave ∧ TurnI wN0 (w6.heap.size + 1) k W) (fun W => ∃ k : Nat, (k = N ∨ ((0 : Nat) = 0 ∧ (k : Int) = leave)) ∧ TurnI wN0 (w6.heap.size + 1) k W)
      (fun k W W' hi ho => hi.only (by intro j e; omega) ho) (fun W W' hi ho => ⟨hi.1, hi.2.choose, hi.2.choose_spec.1, hi.2.choose_spec.2.only (by intro j e; omega) ho⟩) hI0 ?hround (fun _ _ h => h) (fun W h => ⟨_, .inl (by rw [HXS.out]; exact HN.out.1.symm), h⟩) (fun W h => ⟨_, .inr ⟨h.1, h.2.choose_spec.1⟩, h.2.choose_spec.2⟩) ?hdone
    case hround =>
      intro c x W hx hi hS hsz
      rw [HXS.out] at hx
      have hcl : c < N := by rw [HN.out.1]; exact (List.getElem?_eq_some_iff.1 hx).1
      have z1 : (c : Int) < (N : Int) := by omega
      have z2 : ¬ (N : Int) ≤ (c : Int) := by omega
      clear hit hKlt hI0 hS
      gi_wp2
      refine ⟨Only.refl _ W, fun W2 ho2 => ?_⟩
      have hi2 : TurnI wN0 (w6.heap.size + 1) c W2 := hi.only (by intro j e; omega) ho2
      obtain ⟨G2, tc, -⟩ := HF0.out W2 hi2.1
      obtain ⟨rb, off, hao, q0, q1⟩ := G2.row.at HA.out hx
      obtain ⟨n0, n1⟩ := hi2.cell
      have bl := G2.bl
      have bv := G2.bv
      have hset := Only.ofGrown (grown_setCell W2 ⟨w6.heap.size + 1, 0, none⟩ (.int .i64 ((c : Int) + 1)))
      have hset2 : Only (fun j => j = w6.heap.size + 1) W2 (W2.setCell ⟨w6.heap.size + 1, 0, none⟩ (.int .i64 ((c : Int) + 1))) := hset.mono (fun j _ e => by simpa using e.symm)
      have tc2 := hset2.cell tc (by simp only; omega)
      have hszz := HSZ.out
      have bv2 := hset2.cell bv (by simp only; omega)
      clear hszz
      have nc2 := hi2.count.cell.1
      have e0 : ((c + 1 : Nat) : Int) = (c : Int) + 1 := by omega
      rw [e0] at nc2
      have HC := hide (And.intro hset2 hi2.count)
      rw [hao] at bl
      clear hi hi2 G2 ho2 hx hset hset2 e0 hao hcl hsz
      by_cases hlv : ((c : Int) + 1) = leave
      · have d1 : (((c : Int) + 1) == leave) = true := by simpa using hlv
        have HL := hide hlv
        clear hlv
        gi_wp2
        exact ⟨HC.out.1, rfl, c + 1, by first | exact HL.out | (have := HL.out; omega), HC.out.2⟩
      · have d1 : (((c : Int) + 1) == leave) = false := by simpa using hlv
        clear hlv
        gi_wp2
        exact HC.out
    case hdone =>
      intro wv hJ hlsv hK0
      obtain ⟨j, hj, hi⟩ := hJ
      obtain ⟨G1, tc, eC⟩ := HF0.out wv hi.1
      have n0 := hi.cell.1
      have bl := G1.bl
      have bv := G1.bv
      have HB1 : Hid (Below w6.heap.size w6 wv) := hide eC
      have HV := hide hK0
      have hor2 : (((j : Int) == (N : Int)) = true ∧ ((j : Int) != (N : Int)) = false) ∨ (((j : Int) == (N : Int)) = false ∧ ((j : Int) != (N : Int)) = true ∧ ((j : Int) == leave) = true ∧ ((j : Int) != leave) = false) := by
        by_cases hjN : j = N
        · left; rw [hjN]; simp
        · right
          rcases hj with e | ⟨-, e⟩
          · exact absurd e hjN
          · refine ⟨by rw [beq_eq_false_iff_ne]; omega, ?_, by simpa using e, ?_⟩
            · rw [bne_iff_ne]; omega
            · rw [bne, show ((j : Int) == leave) = true by simpa using e]; rfl
      clear hit hKlt hI0 hi hj G1 eC hK0
      go_upto_region 17 with fail
      go_cut [74] from 62 to 74 (fun v74 wq => v74 = .bool false ∧ wq = wv)
      case first =>
        rcases hor2 with ⟨q1, q2⟩ | ⟨q1, q2, q3, q4⟩
        · go_wp2
          go_meet
          exact ⟨rfl, rfl⟩
        · go_wp2
          go_meet
          exact ⟨rfl, rfl⟩
      case rest =>
        obtain ⟨rfl, hwf⟩ := hcut
        replace hwf := hwf.symm
        subst hwf
        clear hor2 n0 bl bv
        go_wp2
        rw [rounds_succ]
        go_wp2
        obtain ⟨wN1, hwN⟩ : ∃ wN, wv.alloc (.cells #[.int .i64 1] 3) = wN := ⟨_, rfl⟩
        have hsN1 : wN1.heap.size = wv.heap.size + 1 := by rw [← hwN]; simp
        have hTc : wN1.cell? ⟨wv.heap.size, 0, none⟩ = some (.int .i64 1) := by rw [← hwN, cell_of_row _ _ 0 _ 3 (0, 0) (heap_alloc_new wv _)]; rfl
        have bN : Below wv.heap.size wv wN1 := by rw [← hwN]; exact (Below.refl _ wv).alloc (Nat.le_refl _) _
        rw [hwN]
        clear hwN
        obtain ⟨wA1, hwA⟩ : ∃ wA, wN1.alloc (.cells #[.int .i64 0] 3) = wA := ⟨_, rfl⟩
        have hsA1 : wA1.heap.size = wv.heap.size + 1 + 1 := by rw [← hwA]; simp [hsN1]
        have bA : Below wN1.heap.size wN1 wA1 := by rw [← hwA]; exact (Below.refl _ wN1).alloc (Nat.le_refl _) _
        have hI0 : TurnI wN1 (wv.heap.size + 1) 0 wA1 := ⟨by rw [← hsN1]; exact bA, by rw [← hsN1, ← hwA]; exact heap_alloc_new wN1 _⟩
        rw [hwA]
        clear hwA
        have bcN1 : Below w6.heap.size w6 wN1 := HB1.out.trans (bN.mono (by have := HB1.out.size; omega))
        have HF1 : Hid (∀ W, Below (wv.heap.size + 1) wN1 W → GoesB w W t k (w.heap.size + 4 + 1) (w.heap.size + 4) ao N cap leave l ∧ W.cell? ⟨wv.heap.size, 0, none⟩ = some (.int .i64 1) ∧ Below w6.heap.size w6 W) := hide (fun W hW => by
          have q1 : Below w6.heap.size w6 W := bcN1.trans (hW.mono (by have := HB1.out.size; omega))
          exact ⟨HG.out.below q1, (hW.cell (by simp)).trans hTc, q1⟩)
        obtain ⟨GA, -, bwA⟩ := HF1.out wA1 (by rw [← hsN1]; exact bA)
        have hit := iter_from t k (w.heap.size + 4 + 1) (w.heap.size + 4) wA1 GA.tree GA.b1 GA.bm
        have hlow := GA.low.size
        have hbB := HB1.out.size
        have hKlt : ∀ j, KF t (w.heap.size + 4 + 1) (w.heap.size + 4) j → j < wv.heap.size := fun j hj => by
          rcases hj with rfl | rfl | hj
          · have := HSZ.out; omega
          · have := HSZ.out; omega
          · have := HTW.out j hj; have := HSZ.out; omega
        have bN1 := hide bN
        clear GA bwA bA bN hTc
        refine range_itb (Q := _) 2 68 enters68 _ (t.from k) (fun x => #[.string x.1, .int .i64 x.2]) _ hit rfl (fun _ _ => rfl) (fun j hj => by have := hKlt j hj; omega) (fun j => j = wv.heap.size + 1) (fun j e hj => by have := hKlt j hj; omega) (by omega) (by omega) (by omega) (by omega)
          (TurnI wN1 (wv.heap.size + 1)) (fun W => ((1 : Nat) = 0) ∧ ∃ k : Nat, (k : Int) = leave ∧ TurnI wN1 (wv.heap.size + 1) k W) (fun W => ∃ k : Nat, (k = N ∨ ((1 : Nat) = 0 ∧ (k : Int) = leave)) ∧ TurnI wN1 (wv.heap.size + 1) k W)
          (fun k W W' hi ho => hi.only (by intro j e; omega) ho) (fun W W' hi ho => ⟨hi.1, hi.2.choose, hi.2.choose_spec.1, hi.2.choose_spec.2.only (by intro j e; omega) ho⟩) hI0 ?hround (fun _ _ h => h) (fun W h => ⟨_, .inl (by rw [HXS.out]; exact HN.out.1.symm), h⟩) (fun W h => ⟨_, .inr ⟨h.1, h.2.choose_spec.1⟩, h.2.choose_spec.2⟩) ?hdone
        case hround =>
          intro c x W hx hi hS hsz
          rw [HXS.out] at hx
          have hcl : c < N := by rw [HN.out.1]; exact (List.getElem?_eq_some_iff.1 hx).1
          have z1 : (c : Int) < (N : Int) := by omega
          have z2 : ¬ (N : Int) ≤ (c : Int) := by omega
          clear hit hKlt hI0 hS
          gi_wp2
          refine ⟨Only.refl _ W, fun W2 ho2 => ?_⟩
          have hi2 : TurnI wN1 (wv.heap.size + 1) c W2 := hi.only (by intro j e; omega) ho2
          obtain ⟨G2, tc, -⟩ := HF1.out W2 hi2.1
          obtain ⟨rb, off, hao, q0, q1⟩ := G2.row.at HA.out hx
          obtain ⟨n0, n1⟩ := hi2.cell
          have bl := G2.bl
          have bv := G2.bv
          have hset := Only.ofGrown (grown_setCell W2 ⟨wv.heap.size + 1, 0, none⟩ (.int .i64 ((c : Int) + 1)))
          have hset2 : Only (fun j => j = wv.heap.size + 1) W2 (W2.setCell ⟨wv.heap.size + 1, 0, none⟩ (.int .i64 ((c : Int) + 1))) := hset.mono (fun j _ e => by simpa using e.symm)
          have tc2 := hset2.cell tc (by simp only; omega)
          have hszz := HSZ.out
          have bv2 := hset2.cell bv (by simp only; omega)
          clear hszz
          have nc2 := hi2.count.cell.1
          have e0 : ((c + 1 : Nat) : Int) = (c : Int) + 1 := by omega
          rw [e0] at nc2
          have HC := hide (And.intro hset2 hi2.count)
          rw [hao] at bl
          clear hi hi2 G2 ho2 hx hset hset2 e0 hao hcl hsz
          gi_wp2
          exact HC.out
        case hdone =>
          intro wx hJ hlsx hK1
          obtain ⟨j, hj, hiX⟩ := hJ
          obtain ⟨G3, tc3, eC⟩ := HF1.out wx hiX.1
          have n0 := hiX.cell.1
          have bl := G3.bl
          have hjN : j = N := by
            rcases hj with e | ⟨e, -⟩
            · exact e
            · exact absurd e (by decide)
          have e1 : ((j : Int) == (N : Int)) = true := by rw [hjN, beq_self_eq_true]
          have e2 : ((j : Int) != (N : Int)) = false := by rw [bne, e1]; rfl
          have hsx1 : wv.heap.size + 1 < wx.heap.size := hiX.size
          have hK01 : wx.heap[wA0.heap.size]? = some (.deferred (some [])) := (hiX.1.block _ (by omega)).trans ((bN1.out.block _ hlsv).trans HV.out)
          have b9 : Below wx.heap.size wx (wx.alloc (.cells #[.int .i64 2] 3)) := (Below.refl _ wx).alloc (Nat.le_refl _) _
          have G9 := G3.below b9
          have q3 : ((wx.alloc (.cells #[.int .i64 2] 3))).heap[w.heap.size + 1 + 1 + 1]? = some (.cells #[.bool false] 4 (0, 0)) := G9.br
          have br0 : (wx.alloc (.cells #[.int .i64 2] 3)).cell? ⟨w.heap.size + 1 + 1 + 1, 0, none⟩ = some (.bool false) := by rw [cell_of_row _ _ 0 _ 4 (0, 0) q3]; rfl
          have br1 : (wx.alloc (.cells #[.int .i64 2] 3)).frozen? ⟨w.heap.size + 1 + 1 + 1, 0, none⟩ = false := frozen_of_row _ _ 0 _ 4 q3
          have brx : wx.heap[w.heap.size + 1 + 1 + 1]? = some (.cells #[.bool false] 4 (0, 0)) := G3.br
          have br2 : wx.cell? ⟨w.heap.size + 1 + 1 + 1, 0, none⟩ = some (.bool false) := by rw [cell_of_row _ _ 0 _ 4 (0, 0) brx]; rfl
          have br3 : wx.frozen? ⟨w.heap.size + 1 + 1 + 1, 0, none⟩ = false := frozen_of_row _ _ 0 _ 4 brx
          have hlowx := G3.low
          have HX := hide (And.intro hK01 (And.intro hK1 (And.intro b9 (And.intro G9 (And.intro brx hlowx)))))
          clear hit hKlt hI0 hiX hj hjN G3 G9 eC hK1 hK01 q3 brx b9 hlowx
          go_wp2
          rw [rounds_succ]
          go_wp2
          obtain ⟨hK01, hK1, b9, G9, brx, hlowx⟩ := HX.out
          generalize wx.alloc (.cells #[.int .i64 2] 3) = wy at *
          have hsy := b9.size
          have hs4 := HSZ.out
          have q3 := G9.br
          have k0 := (b9.block _ (Array.getElem?_eq_some_iff.1 hK01).1).trans hK01
          have k1 := (b9.block _ (Array.getElem?_eq_some_iff.1 hK1).1).trans hK1
          have hset := Only.ofGrown (grown_setCell wy ⟨w.heap.size + 1 + 1 + 1, 0, none⟩ (.bool true))
          have hx0 := (hset.block wA0.heap.size (Array.getElem?_eq_some_iff.1 k0).1 (by intro e; have e' : w.heap.size + 1 + 1 + 1 = wA0.heap.size := (by injection e); omega)).trans k0
          have hx1 := (hset.block wA1.heap.size (Array.getElem?_eq_some_iff.1 k1).1 (by intro e; have e' : w.heap.size + 1 + 1 + 1 = wA1.heap.size := (by injection e); omega)).trans k1
          have hcell : (wy.setCell ⟨w.heap.size + 1 + 1 + 1, 0, none⟩ (.bool true)).cell? ⟨w.heap.size + 1 + 1 + 1, 0, none⟩ = some (.bool true) := by rw [cell_of_row _ _ 0 _ 4 (0, 0) (heap_setCell_same _ _ _ _ 4 _ q3)]; rfl
          have hB6 : Below w.heap.size w (wy.setCell ⟨w.heap.size + 1 + 1 + 1, 0, none⟩ (.bool true)) := G9.low.setCell (by simp only; omega) _
          have o1 := only_putObj (wy.setCell ⟨w.heap.size + 1 + 1 + 1, 0, none⟩ (.bool true)) wA1.heap.size (.deferred none)
          have hx0' := (o1.block wA0.heap.size (Array.getElem?_eq_some_iff.1 hx0).1 (by omega)).trans hx0
          have o2 := only_putObj ((wy.setCell ⟨w.heap.size + 1 + 1 + 1, 0, none⟩ (.bool true)).putObj wA1.heap.size (.deferred none)) wA0.heap.size (.deferred none)
          exact leave_mark (fn := Try.f39) hx1 (leave_mark hx0' (leave_cell (w.heap.size + 1 + 1 + 1) (x := true) rfl rfl (o2.cell (o1.cell hcell (by simp only; omega)) (by simp only; omega)) ⟨rfl, Below.only (Below.only hB6 o1 hB6.size (by intro j e; omega)) o2 (by have := hB6.size; simpa using this) (by intro j e; omega)⟩))
end Go.Proofs.Ytleaaoknjflgoaa
