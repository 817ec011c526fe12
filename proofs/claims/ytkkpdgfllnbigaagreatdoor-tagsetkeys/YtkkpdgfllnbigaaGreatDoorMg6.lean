/-
  WHAT AN ITERATOR IS (it hands over a list, one behind the other, whatever the rounds do), and a law for the statement 'for .. := range it { .. }'. It names no function of the program.
  From AND All, as iterators.
  LABELS AND TEXTS: what keys' Label and Cmp, and the document's, answer.
  WHICH BRANCHES, NAMES, STAMPS MAY BE: plainly, and what the program's and the document's functions answer.
-/
import Derived.Test.YtkkpdgfllnbigaaGreatDoorPFrom
import Derived.Laws.EntriesVeiled
import Derived.Test.YtkkpdgfllnbigaaGreatDoorMg2
import Derived.Test.YtkkpdgfllnbigaaGreatDoorMg1
import Derived.Lib.OthersKept
import Derived.Lib.TrimUEq
import Derived.Lib.MapLaws
import Derived.Laws.RangeAny
import Derived.Laws.RangeString
import Derived.Lib.ValidLaws
import Derived.Deep.QuietTactic
import Derived.BigQuiet
namespace Go.Proofs.YtkkpdgfllnbigaaGreatDoor.Pm
open Go.RowKit Go.Shelf
set_option linter.unusedSimpArgs false
attribute [local go_sem] Oper.semAt_some

/-- The blocks of K are as they were. -/
def Same (K : Nat → Prop) (w W : World) : Prop := ∀ j, K j → W.heap[j]? = w.heap[j]?
/-- F, with what it has caught, hands over xs. It lays two blocks of its own first. -/
def Iter {α : Type} (F : FuncId) (caps : Array Value) (xs : List α) (enc : α → Array Value) (K : Nat → Prop) (w : World) : Prop :=
  ∀ (l : Nat) (D : Nat → Prop) (J : Nat → World → Prop) (Jx : World → Prop) (W : World), Same K w W → w.heap.size ≤ W.heap.size → (∀ j, D j → ¬ K j) → ¬ D W.heap.size → ¬ D (W.heap.size + 1) →
    (∀ c W1 W2, J c W1 → Below W1.heap.size W1 W2 → J c W2) →
    (∀ c x W1, xs[c]? = some x → J c W1 → Same K w W1 → W.heap.size + 2 ≤ W1.heap.size → YieldAt Fence.wide 4 Tryz.prog l (enc x) W1 (Went D J Jx W1 (c + 1))) → J 0 W →
    Calls Tryz.prog F (#[.func (.yield l) #[] #[]] ++ caps) W fun e W' => (∃ v, e = .returned v) ∧ (J xs.length W' ∨ Jx W')

theorem Same.only {D K : Nat → Prop} {w W W' : World} (h : Same K w W) (hK : ∀ j, K j → j < w.heap.size) (hs : w.heap.size ≤ W.heap.size) (ho : Only D W W') (hD : ∀ j, D j → ¬ K j) : Same K w W' := fun j hj =>
  (ho.block j (Nat.lt_of_lt_of_le (hK j hj) hs) (fun d => hD j d hj)).trans (h j hj)

set_option maxHeartbeats 1000000 in
/-- 'for .. := range it { .. }': D holds the blocks that a round may turn; I is what holds between rounds, Ix where one has left by a jump. -/
theorem range_it {α : Type} {a : Act} {w : World} {Q : Exit → Act → World → Prop} {g : Operand} {ps : Array Tmp} {assign body : Code} (F : FuncId) (eg : Enters Tryz.prog F) (caps : Array Value) (xs : List α) (enc : α → Array Value) (K : Nat → Prop)
    (hit : Iter F caps xs enc K w) (hg : a.eval g = .func (.func F) #[] caps) (hps : ∀ x ∈ xs, (enc x).size = ps.size) (hK : ∀ j, K j → j < w.heap.size)
    (D : Nat → Prop) (hDK : ∀ j, D j → ¬ K j) (hD0 : ¬ D w.heap.size) (hD1 : ¬ D (w.heap.size + 1)) (hD2 : ¬ D (w.heap.size + 2)) (hD3 : ¬ D (w.heap.size + 3))
    (I : Nat → World → Prop) (Ix : Code → World → Prop) (hI : ∀ k W W', I k W → Only (fun j => j = w.heap.size + 1) W W' → I k W') (hIx : ∀ c W W', Ix c W → Only (fun j => j = w.heap.size + 1) W W' → Ix c W') (h0 : I 0 w)
    (hround : ∀ c x W, xs[c]? = some x → I c W → Same K w W → w.heap.size + 4 ≤ W.heap.size →
      assign.wpIn (Fence.wide.inRound (w.heap.size + 1)) 4 Tryz.prog (Exit.then (fun a1 W1 => Only D W W1 ∧ ∀ W2, Only (fun j => j = w.heap.size + 1) W1 W2 → body.wpIn (Fence.wide.inRound (w.heap.size + 1)) 4 Tryz.prog (rpost D I Ix W2 (c + 1)) a1 W2) (fun _ _ _ => False))
        { tmps := (ps.zip (enc x)).foldl (fun t (p, v) => t.setIfInBounds p v) a.tmps, defers := [] } W)
    (hdone : ∀ W, I xs.length W → w.heap.size < W.heap.size → W.heap[w.heap.size]? = some (.deferred (some [])) → Q .normal { a with defers := { target := .collected w.heap.size, args := #[] } :: a.defers } W)
    (hstop : ∀ c W, Ix c W → w.heap.size < W.heap.size → W.heap[w.heap.size]? = some (.deferred (some [])) → c.wp Tryz.prog Q { a with defers := { target := .collected w.heap.size, args := #[] } :: a.defers } W) :
    (Code.rangeFunc g ps assign body).wp Tryz.prog Q a w := by
  refine (wpIn_wide (n := 6)).1 (wpIn_rangeFunc (fun fn _ => ?_))
  obtain ⟨rec, hrec⟩ : ∃ rec : LoopState → Option Code → Loop, rec = fun st pe => { state := st, pending := pe, fn := fn, tmps := a.tmps, params := ps, assign := assign, body := body, defers := w.heap.size } := ⟨_, rfl⟩
  obtain ⟨W1, hW1⟩ : ∃ W1, (w.alloc (.deferred (some []))).alloc (.loop (rec .ready none)) = W1 := ⟨_, rfl⟩
  obtain ⟨m0, m1⟩ := new2 w (.deferred (some [])) (.loop (rec .ready none))
  rw [hW1] at m0 m1
  have hb1 : Below w.heap.size w W1 := by rw [← hW1]; exact ((Below.refl _ w).alloc (Nat.le_refl _) _).alloc (by simp) _
  have hs1 : W1.heap.size = w.heap.size + 2 := by rw [← hW1]; simp
  have toOnly : ∀ {A B : World}, Below A.heap.size A B → Only (fun j => j = w.heap.size + 1) A B := fun h => below_only h
  have hK1 : Same K w W1 := fun j hj => hb1.block j (hK j hj)
  refine ⟨w.heap.size + 1, [{ target := .collected w.heap.size, args := #[] }], W1, { target := .fn (.func F) caps, args := #[.func (.yield (w.heap.size + 1)) #[] #[]] }, W1, F,
    #[.func (.yield (w.heap.size + 1)) #[] #[]] ++ caps, W1, ?_, ?_, fun _ _ => trivial, ?_, fun _ => by omega, ?_⟩
  · rw [← hW1, hrec]; exact run_enterLoop_outer _ _ _ _ _
  · simp only [resolve, hg]
    simp [go_sem]
  · have eg' := fun args w => eg args w
    simp [invoke, go_sem, eg']
  · refine callsIn_wide.2 ((hit (w.heap.size + 1) (fun j => D j ∨ j = w.heap.size + 1)
      (fun k W => I k W ∧ W.heap[w.heap.size + 1]? = some (.loop (rec .ready none)) ∧ W.heap[w.heap.size]? = some (.deferred (some [])))
      (fun W => ∃ c, Ix c W ∧ W.heap[w.heap.size + 1]? = some (.loop (rec .done (some c))) ∧ W.heap[w.heap.size]? = some (.deferred (some []))) W1 hK1 (by omega)
      (fun j e => e.elim (hDK j) (fun e k => by have := hK j k; omega)) (by rw [hs1]; exact fun e => e.elim hD2 (fun e => by omega)) (by rw [hs1]; exact fun e => e.elim hD3 (fun e => by omega))
      (fun k W W' hj hb => ⟨hI k W W' hj.1 (toOnly hb), (hb.block _ (gI hj.2.1).1).trans hj.2.1, (hb.block _ (gI hj.2.2).1).trans hj.2.2⟩) ?_ ⟨hI 0 w W1 h0 (toOnly hb1), m1, m0⟩).mono ?_)
    · rintro k x W hx ⟨hi, hl, hk⟩ hSK hsz
      rw [hs1] at hsz
      have hy := run_yield (P := Tryz.prog) (args := enc x) hl (by rw [hrec]; exact hps x (List.mem_of_getElem? hx))
      rw [hrec] at hy
      refine ⟨fn, _, assign, body, hy, roundIn_of_wpIn trivial (wpIn_mono (hround k x W hx hi hSK (by omega)) ?_)⟩
      rintro e a1 Wa hp
      cases e with
      | normal =>
        obtain ⟨hoa, hbody⟩ := hp
        have hla : Wa.heap[w.heap.size + 1]? = some (.loop (rec .ready none)) := (hoa.block _ (gI hl).1 hD1).trans hl
        have hka : Wa.heap[w.heap.size]? = some (.deferred (some [])) := (hoa.block _ (gI hk).1 hD0).trans hk
        refine ⟨_, run_beginRound hla (by rw [hrec]), ?_⟩
        have hlta := (gI hla).1
        have hl2 : (Wa.putObj (w.heap.size + 1) (.loop { rec .ready none with state := .busy })).heap[w.heap.size + 1]? = some (.loop { rec .ready none with state := .busy }) := World.putObj_heap_same hlta
        have hk2 : (Wa.putObj (w.heap.size + 1) (.loop { rec .ready none with state := .busy })).heap[w.heap.size]? = some (.deferred (some [])) := (World.putObj_heap_other (by omega)).trans hka
        have hT : ∀ {A B : World}, Only D A B → Only (fun j => D j ∨ j = w.heap.size + 1) A B := fun h => h.mono (fun _ _ e => .inl e)
        have hT2 : ∀ {A B : World}, Only (fun j => j = w.heap.size + 1) A B → Only (fun j => D j ∨ j = w.heap.size + 1) A B := fun h => h.mono (fun _ _ e => .inr e)
        have hTw := (hT hoa).next (hT2 (only_putObj Wa (w.heap.size + 1) (.loop { rec .ready none with state := .busy })))
        refine wpIn_mono (hbody _ (only_putObj Wa _ _)) ?_
        have fin : ∀ (jump : Option Code) (W3 : World), Only D (Wa.putObj (w.heap.size + 1) (.loop { rec .ready none with state := .busy })) W3 → ∃ W4, (Instr.endRound (w.heap.size + 1) jump).run Tryz.prog W3 = .ok (.bool jump.isNone) W4 ∧ Only (fun j => j = w.heap.size + 1) W3 W4 ∧
            W4.heap[w.heap.size + 1]? = some (.loop (rec (if jump.isNone then .ready else .done) jump)) ∧ W4.heap[w.heap.size]? = some (.deferred (some [])) ∧ Only (fun j => D j ∨ j = w.heap.size + 1) W W4 := fun jump W3 ho3 => by
          have hl3 := (ho3.block _ (by simpa using hlta) hD1).trans hl2
          have hk3 := (ho3.block _ (by simp; omega) hD0).trans hk2
          have := run_endRound (P := Tryz.prog) jump hl3
          refine ⟨_, this, only_putObj W3 _ _, ?_, (World.putObj_heap_other (by omega)).trans hk3, (hTw.next (hT ho3)).next (hT2 (only_putObj W3 _ _))⟩
          rw [World.putObj_heap_same (gI hl3).1, hrec]
        rintro e a3 W3 hp3
        cases e with
        | normal =>
          obtain ⟨ho3, hi3⟩ := hp3
          obtain ⟨W4, hr, ho4, hl4, hk4, hL4⟩ := fin none W3 ho3
          exact ⟨_, _, hr, hL4, .inl ⟨rfl, hI _ _ _ hi3 ho4, hl4, hk4⟩⟩
        | ret =>
          obtain ⟨ho3, hi3⟩ := hp3
          obtain ⟨W4, hr, ho4, hl4, hk4, hL4⟩ := fin (some .ret) W3 ho3
          exact ⟨_, _, hr, hL4, .inr ⟨rfl, .ret, hIx _ _ _ hi3 ho4, hl4, hk4⟩⟩
        | exit id =>
          obtain ⟨ho3, hi3⟩ := hp3
          obtain ⟨W4, hr, ho4, hl4, hk4, hL4⟩ := fin (some (.exit id)) W3 ho3
          exact ⟨_, _, hr, hL4, .inr ⟨rfl, .exit id, hIx _ _ _ hi3 ho4, hl4, hk4⟩⟩
        | goto t =>
          obtain ⟨ho3, hi3⟩ := hp3
          obtain ⟨W4, hr, ho4, hl4, hk4, hL4⟩ := fin (some (.goto t)) W3 ho3
          exact ⟨_, _, hr, hL4, .inr ⟨rfl, .goto t, hIx _ _ _ hi3 ho4, hl4, hk4⟩⟩
        | panic ch => exact hp3.elim
        | outgrown => exact hp3.elim
      | ret => exact hp.elim
      | exit id => exact hp.elim
      | goto t => exact hp.elim
      | panic ch => exact hp.elim
      | outgrown => exact hp.elim
    · rintro e W2 ⟨⟨v, rfl⟩, (⟨hi, hl, hk⟩ | ⟨c, hi, hl, hk⟩)⟩
      · have hlt := (gI hk).1
        refine ⟨none, _, by have := run_endLoop (P := Tryz.prog) hl (by rw [hrec]; simp); rw [hrec] at this; exact this, hdone _ (hI _ _ _ hi (only_putObj _ _ _)) (by simpa using hlt) ((World.putObj_heap_other (by omega)).trans hk)⟩
      · have hlt := (gI hk).1
        refine ⟨some c, _, by have := run_endLoop (P := Tryz.prog) hl (by rw [hrec]; simp); rw [hrec] at this; exact this, wpIn_wide.2 (hstop c _ (hIx _ _ _ hi (only_putObj _ _ _)) (by simpa using hlt) ((World.putObj_heap_other (by omega)).trans hk))⟩
end Go.Proofs.YtkkpdgfllnbigaaGreatDoor.Pm
namespace Go.Proofs.YtkkpdgfllnbigaaGreatDoor.Pm
open Go.RowKit Go.Shelf
set_option linter.unusedSimpArgs false

theorem Same.cell {K : Nat → Prop} {w W : World} (h : Same K w W) {L : Nat} (hL : K L) {x : Value} (hc : w.cell? ⟨L, 0, none⟩ = some x) : W.cell? ⟨L, 0, none⟩ = some x := by
  rw [World.cell?_of_block (h L hL)]; exact hc
theorem Same.below {K : Nat → Prop} {w W W' : World} (h : Same K w W) (hK : ∀ j, K j → j < w.heap.size) (hs : w.heap.size ≤ W.heap.size) (hb : Below W.heap.size W W') : Same K w W' := fun j hj => (hb.block j (Nat.lt_of_lt_of_le (hK j hj) hs)).trans (h j hj)
/-- What an iterator's rounds keep. -/
def Keeps (J : Nat → World → Prop) (K : Nat → Prop) (w W : World) (c : Nat) (W1 : World) : Prop := J c W1 ∧ Same K w W1 ∧ W.heap.size + 2 ≤ W1.heap.size
theorem Went.keeps {D K : Nat → Prop} {J : Nat → World → Prop} {Jx : World → Prop} {w W W1 : World} {c : Nat} {e : Ending} {W2 : World} (h : Went D J Jx W1 c e W2) (hS : Same K w W1) (hz : W.heap.size + 2 ≤ W1.heap.size) (hK : ∀ j, K j → j < w.heap.size) (hs : w.heap.size ≤ W1.heap.size) (hD : ∀ j, D j → ¬ K j) : Went D (Keeps J K w W) Jx W1 c e W2 := by
  refine ⟨h.1, ?_⟩
  rcases h.2 with ⟨he, hj⟩ | ⟨he, hj⟩
  · exact .inl ⟨he, hj, hS.only hK hs h.1 hD, Nat.le_trans hz h.1.size⟩
  · exact .inr ⟨he, hj⟩
def KF (t : T) (L1 LM : Nat) : Nat → Prop := fun j => j = L1 ∨ j = LM ∨ t.blk j

set_option maxHeartbeats 2000000 in
set_option maxRecDepth 100000 in
theorem iter_from (t : T) (k : ByteArray) (L1 LM : Nat) (w : World) (ht : In w t) (h1 : w.cell? ⟨L1, 0, none⟩ = some (.string k)) (hM : w.cell? ⟨LM, 0, none⟩ = some t.ptr) :
    Iter 82 #[.pointer (some ⟨L1, 0, none⟩), .pointer (some ⟨LM, 0, none⟩)] (t.from k) (fun x => #[.string x.1, .string x.2]) (KF t L1 LM) w := by
  intro l D J Jx W hS hs hDK hD0 hD1 hJB hY hJ
  have hK : ∀ j, KF t L1 LM j → j < w.heap.size := fun j hj => by
    rcases hj with rfl | rfl | hj
    · exact World.block_lt_of_cell? w _ h1
    · exact World.block_lt_of_cell? w _ hM
    · exact ht.blk_lt hj
  have hcM := hS.cell (L := LM) (.inr (.inl rfl)) hM
  obtain ⟨W1, hW1⟩ : ∃ W1, W1 = (W.alloc (.cells #[.func (.yield l) #[] #[]] 132)).alloc (.cells #[.func (.func 83) #[] #[.pointer (some ⟨L1, 0, none⟩), .pointer (some ⟨W.heap.size + 1, 0, none⟩), .pointer (some ⟨W.heap.size, 0, none⟩)]] 133) := ⟨_, rfl⟩
  have hb : Below W.heap.size W W1 := by rw [hW1]; exact ((Below.refl _ W).alloc (Nat.le_refl _) _).alloc (by simp) _
  have hsz : W1.heap.size = W.heap.size + 2 := by rw [hW1]; simp
  obtain ⟨n0, n1⟩ := new2 W (.cells #[.func (.yield l) #[] #[]] 132) (.cells #[.func (.func 83) #[] #[.pointer (some ⟨L1, 0, none⟩), .pointer (some ⟨W.heap.size + 1, 0, none⟩), .pointer (some ⟨W.heap.size, 0, none⟩)]] 133)
  rw [← hW1] at n0 n1
  have hS1 : Same (KF t L1 LM) w W1 := hS.below hK hs hb
  have hE : FEnv W1 t k L1 (W.heap.size + 1) W.heap.size l := ⟨In.same ht (fun j hj => hS1 j (.inr (.inr hj))), hS1.cell (.inl rfl) h1, by rw [cell_of_row _ _ 0 _ 133 (0, 0) n1]; rfl, by rw [cell_of_row _ _ 0 _ 132 (0, 0) n0]; rfl⟩
  have ho := over_from t k L1 (W.heap.size + 1) W.heap.size l (t.from k) D (Keeps J (KF t L1 LM) w W) Jx (fun j d e => hDK j d (.inr (.inr e))) (fun d => hDK _ d (.inl rfl)) hD1 hD0
    (fun c A B hj hb' => ⟨hJB c A B hj.1 hb', hj.2.1.below hK (by have := hj.2.2; omega) hb', Nat.le_trans hj.2.2 hb'.size⟩)
    (fun c x A hx hj _ => (hY c x A hx hj.1 hj.2.1 hj.2.2).mono (fun e B hw => hw.keeps hj.2.1 hj.2.2 hK (by have := hj.2.2; omega) hDK)) t 0 W1 (.inl .here) hE ⟨hJB 0 W W1 hJ hb, hS1, by omega⟩ (fun i x h => by rw [Nat.zero_add]; exact h)
  have HO := hide (show Calls Tryz.prog 83 _ W1 (fun e W' => ∃ b, e = .returned (.bool b) ∧ (J (t.from k).length W' ∨ Jx W')) from ho.mono (fun e W' h => by
    rcases h.2 with ⟨rfl, hj⟩ | ⟨rfl, hj⟩
    · exact ⟨_, rfl, .inl (by rw [Nat.zero_add] at hj; exact hj.1)⟩
    · exact ⟨_, rfl, .inr hj⟩))
  obtain ⟨a, ha⟩ := t.ptr_shape
  rw [ha] at hcM HO
  have hcM2 : ∀ o1 o2, ((W.alloc o1).alloc o2).cell? ⟨LM, 0, none⟩ = some (.pointer a) := fun o1 o2 => cell_stays hcM (((Below.refl _ W).alloc (Nat.le_refl _) _).alloc (by simp) _)
  have ho2 := HO.out
  rw [hW1] at ho2
  clear hE ho hS1 n0 n1 hsz hb hK hY hJB hJ hD0 hD1 hDK hS hs ha ht h1 hM HO hW1
  go_enter Tryz.func82, Tryz.ntmps82
  go_wp2_with (go_at_call 83; refine ho2.mono ?_; rintro e W' ⟨b, rfl, hj⟩)
  go_end0
  exact ⟨⟨_, rfl⟩, hj⟩

theorem mFrom_any (t : T) (k : ByteArray) (w : World) : Calls Tryz.prog 54 #[mv t, .string k] w fun e w' => e = .returned (.func (.func 82) #[] #[.pointer (some ⟨w.heap.size + 1, 0, none⟩), .pointer (some ⟨w.heap.size, 0, none⟩)]) ∧ w' = (w.alloc (.cells #[t.ptr] 43)).alloc (.cells #[.string k] 9) := by
  unfold mv
  obtain ⟨a, ha⟩ := t.ptr_shape
  rw [ha]
  go_enter Tryz.func54, Tryz.ntmps54
  go_wp2
  go_ret
  exact ⟨rfl, rfl⟩
theorem mAll_any (t : T) (w : World) : Calls Tryz.prog 78 #[mv t] w fun e w' => e = .returned (.func (.func 82) #[] #[.pointer (some ⟨w.heap.size + 2, 0, none⟩), .pointer (some ⟨w.heap.size + 1, 0, none⟩)]) ∧ w' = ((w.alloc (.cells #[t.ptr] 43)).alloc (.cells #[t.ptr] 43)).alloc (.cells #[.string ⟨#[]⟩] 9) := by
  have hf := mFrom_any t ⟨#[]⟩ (w.alloc (.cells #[t.ptr] 43))
  have hs : (w.alloc (.cells #[t.ptr] 43)).heap.size = w.heap.size + 1 := by simp
  rw [hs] at hf
  unfold mv at *
  obtain ⟨a, ha⟩ := t.ptr_shape
  rw [ha] at hf ⊢
  clear ha hs
  go_enter Tryz.func78, Tryz.ntmps78
  go_wp2_with (go_at_call 54; refine hf.mono ?_; rintro e w' ⟨rfl, rfl⟩)
  go_ret
  exact ⟨rfl, rfl⟩
/-- What From answers goes over the keys from one on. -/
theorem from_is (k : ByteArray) : ∀ {t : T}, Srt t.list → t.from k = t.list.drop (pos k t.list)
  | .nil, _ => by simp [T.from, T.list]
  | .node p nk nv l r, h => by
    obtain ⟨s1, s2, s3, s4⟩ := Srt.app.1 h
    rw [T.from, from_is k s1, from_is k s2]
    by_cases hc : cmpB nk k = -1
    · rw [if_pos hc]
      have e : (T.node p nk nv l r).list = (l.list ++ [(nk, nv)]) ++ r.list := by simp [T.list]
      rw [e, pos_right, List.drop_length_add_append]
      intro y hy
      simp only [List.mem_append, List.mem_singleton] at hy
      rcases hy with hy | rfl
      · exact ord_B.trans _ _ _ (s3 y hy) hc
      · exact hc
    · rw [if_neg hc]
      have hn : cmpB k nk ≠ 1 := by have := ord_B.anti k nk; omega
      rw [T.list, pos_left (x := (nk, nv)) hn, List.drop_append_of_le_length (pos_le _ _)]
      have hr : pos k r.list = 0 := by
        cases hrl : r.list with
        | nil => rfl
        | cons y ys =>
          have h4 := s4 y (by rw [hrl]; simp)
          have : ¬ cmpB y.1 k = -1 := fun e => by
            have := ord_B.trans _ _ _ h4 e
            exact hc this
          rw [pos, if_neg this]
      rw [hr]
      rfl
theorem empty_low (x : ByteArray) : cmpB x ⟨#[]⟩ ≠ -1 := by
  unfold cmpB
  cases x.data.toList <;> simp [Lib.compareBytes]
theorem pos_empty (l : List (ByteArray × ByteArray)) : pos ⟨#[]⟩ l = 0 := by
  cases l with
  | nil => rfl
  | cons y ys => rw [pos, if_neg (empty_low y.1)]
theorem all_is {t : T} (h : Srt t.list) : t.from ⟨#[]⟩ = t.list := by rw [from_is _ h, pos_empty]; rfl
end Go.Proofs.YtkkpdgfllnbigaaGreatDoor.Pm
namespace Go.Proofs.YtkkpdgfllnbigaaGreatDoor
open Go.RowKit Go.Shelf
set_option linter.unusedSimpArgs false

def labelByte (b : UInt8) : Bool := decide (97 ≤ b.toNat) && decide (b.toNat ≤ 122)

def labelB (l : List UInt8) : Bool := decide (1 ≤ l.length) && decide (l.length ≤ 12) && l.all labelByte

theorem getD_byte (s : ByteArray) (pos : Nat) (h : pos < s.size) : s.data.toList.getD pos 0 = s[pos]'h := by
  have hl : pos < s.data.toList.length := by rw [← Lib.size_eq]; exact h
  simp [List.getD, List.getElem?_eq_getElem hl]
  rfl

theorem all_one (p : UInt8 → Bool) (s : ByteArray) (pos : Nat) (h : pos < s.size) : (s.data.toList.drop pos).all p = (p (s[pos]'h) && (s.data.toList.drop (pos + 1)).all p) := by
  have hl : s.data.toList.length = s.size := (Lib.size_eq s).symm
  rw [List.drop_eq_getElem_cons (by omega), List.all_cons]
  rw [← getD_byte s pos h]
  simp [List.getD, List.getElem?_eq_getElem (show pos < s.data.toList.length by omega)]

theorem at_string (s : ByteArray) (pos : Nat) (h : pos < s.size) : ∃ X : Int, X = ((s[pos]'h).toNat : Int) ∧ 0 ≤ X ∧ X < 256 ∧ ∀ W, (Instr.index 9 (.string s) (.int .i64 (pos : Int))).run Tryz.prog W = .ok (.int .u8 X) W := by
  refine ⟨_, rfl, by omega, ?_, fun W => ?_⟩
  · have := (s[pos]'h).toNat_lt
    omega
  · rw [run_index_string W 9 s .i64 (pos : Int) Tryz.underlying9, dif_pos ⟨by omega, by omega⟩]; rfl

set_option maxHeartbeats 1000000 in
set_option maxRecDepth 100000 in
theorem label_any (s : ByteArray) (w : World) : Calls Tryz.prog 101 #[.string s] w fun e w' => e = .returned (.bool (labelB s.data.toList)) ∧ Below w.heap.size w w' := by
  unfold labelB
  rw [← Lib.size_eq]
  by_cases h1 : 1 ≤ s.size
  · by_cases h2 : s.size ≤ 12
    · have d1 : decide (1 ≤ s.size) = true := by simpa using h1
      have d2 : decide (s.size ≤ 12) = true := by simpa using h2
      have e1 : ¬ ((s.size : Int) < 1) := by omega
      have e2 : ¬ ((12 : Int) < (s.size : Int)) := by omega
      rw [d1, d2]
      obtain ⟨ANS, hANS⟩ : ∃ ANS, ANS = s.data.toList.all labelByte := ⟨_, rfl⟩
      rw [← hANS]
      simp only [Bool.true_and]
      have HA := hide hANS
      clear hANS
      go_enter Tryz.func101, Tryz.ntmps101
      go_wp2
      go_loopw [4] (fun _ wr => ∃ pos : Nat, pos ≤ s.size ∧ wr.heap[w.heap.size]? = some (.stringIter s pos) ∧ Below w.heap.size w wr ∧ Hid ((s.data.toList.drop pos).all labelByte = ANS)) (fun _ wr => s.size - wr.iterPos w.heap.size)
      case atStart =>
        refine ⟨0, Nat.zero_le _, ?_, (Below.refl _ w).alloc (Nat.le_refl _) _, hide (by simpa using HA.out.symm)⟩
        have := World.iter_heap w s 0
        simpa using this
      case round =>
        obtain ⟨pos, hps, hit, hbw, hrest⟩ := hrel
        have hsz : w.heap.size < wr.heap.size := (gI hit).1
        by_cases hp : pos < s.size
        · have hnx : ∀ ty, (Instr.next (.pointer (some ⟨w.heap.size, 0, none⟩)) true ty).run Tryz.prog wr = _ := fun ty => Lib.run_next_any_at wr w.heap.size s pos ty hit hp
          have hit2 := Lib.iterAt_heap wr w.heap.size s pos (pos + (Utf8.decode s pos).2) hit
          have hbw2 := Lib.below_iterAt hbw (k := w.heap.size) (by omega) s (pos + (Utf8.decode s pos).2)
          have hmu : wr.iterPos w.heap.size = pos := by simp [World.iterPos, hit]
          have hone := all_one labelByte s pos hp
          by_cases ha : (s[pos]'hp).toNat < 128
          · have hdec := decode_ascii s pos hp ha
            rw [hdec] at hnx hit2 hbw2
            simp only at hnx hit2 hbw2
            generalize wr.iterAt w.heap.size s (pos + 1) = W1 at hnx hit2 hbw2
            by_cases hlo : (s[pos]'hp).toNat < 97
            · have hE : ANS = false := by
                rw [← hrest.out, hone]
                have : labelByte (s[pos]'hp) = false := by unfold labelByte; simp; omega
                rw [this, Bool.false_and]
              have c1 : ((s[pos]'hp).toNat : Int) < 97 := by omega
              have HE := hide hE
              generalize ((s[pos]'hp).toNat : Int) = rr at c1 hnx
              clear hE hone hdec ha hlo
              go_wp2
              go_ret
              exact ⟨by rw [HE.out]; rfl, hbw2⟩
            · have c1 : ¬ (((s[pos]'hp).toNat : Int) < 97) := by omega
              by_cases hhi : 122 < (s[pos]'hp).toNat
              · have hE : ANS = false := by
                  rw [← hrest.out, hone]
                  have : labelByte (s[pos]'hp) = false := by unfold labelByte; simp; omega
                  rw [this, Bool.false_and]
                have c2 : (122 : Int) < ((s[pos]'hp).toNat : Int) := by omega
                have HE := hide hE
                generalize ((s[pos]'hp).toNat : Int) = rr at c1 c2 hnx
                clear hE hone hdec ha hlo hhi
                go_wp2
                go_ret
                exact ⟨by rw [HE.out]; rfl, hbw2⟩
              · have c2 : ¬ ((122 : Int) < ((s[pos]'hp).toNat : Int)) := by omega
                have hlb : labelByte (s[pos]'hp) = true := by unfold labelByte; simp; omega
                rw [hlb, Bool.true_and] at hone
                have HO := hide hone
                generalize ((s[pos]'hp).toNat : Int) = rr at c1 c2 hnx
                clear hlb hone hdec ha hlo hhi
                go_wp2
                go_roundw
                case rel => exact ⟨pos + 1, by omega, hit2, hbw2, hide (by rw [← HO.out]; exact hrest.out)⟩
                case measure =>
                  have hmu2 : W1.iterPos w.heap.size = pos + 1 := by simp [World.iterPos, hit2]
                  rw [hmu, hmu2]; omega
          · have hd := decode_high s pos hp (by omega)
            have hE : ANS = false := by
              rw [← hrest.out, hone]
              have : labelByte (s[pos]'hp) = false := by unfold labelByte; simp; omega
              rw [this, Bool.false_and]
            have c1 : ¬ (((Utf8.decode s pos).1 : Int) < 97) := by omega
            have c2 : (122 : Int) < ((Utf8.decode s pos).1 : Int) := by omega
            have HE := hide hE
            generalize (Utf8.decode s pos).2 = ww at hnx hit2 hbw2
            generalize wr.iterAt w.heap.size s (pos + ww) = W1 at hnx hit2 hbw2
            generalize ((Utf8.decode s pos).1 : Int) = rr at c1 c2 hnx
            clear hE hone ha hd
            go_wp2
            go_ret
            exact ⟨by rw [HE.out]; rfl, hbw2⟩
        · have hnx : ∀ ty, (Instr.next (.pointer (some ⟨w.heap.size, 0, none⟩)) true ty).run Tryz.prog wr = _ := fun ty => Lib.run_next_end_at wr w.heap.size s pos ty hit hp
          have hE : ANS = true := by
            rw [← hrest.out, List.drop_eq_nil_of_le (by rw [← Lib.size_eq]; omega)]; rfl
          have HE := hide hE
          clear hE
          go_wp2
          go_ret
          exact ⟨by rw [HE.out]; rfl, hbw⟩
    · have d2 : decide (s.size ≤ 12) = false := by simpa using h2
      have e1 : ¬ ((s.size : Int) < 1) := by omega
      have e2 : (12 : Int) < (s.size : Int) := by omega
      rw [d2, Bool.and_false, Bool.false_and]
      go_enter Tryz.func101, Tryz.ntmps101
      go_wp2
      go_ret
      exact ⟨rfl, Below.refl _ _⟩
  · have d1 : decide (1 ≤ s.size) = false := by simpa using h1
    have e1 : (s.size : Int) < 1 := by omega
    rw [d1, Bool.false_and, Bool.false_and]
    go_enter Tryz.func101, Tryz.ntmps101
    go_wp2
    go_ret
    exact ⟨rfl, Below.refl _ _⟩

set_option maxHeartbeats 1000000 in
set_option maxRecDepth 100000 in
theorem refLabel_any (s : ByteArray) (w : World) (hs : s.size ≤ 9223372036854775807) : Calls Tryz.prog 71 #[.string s] w fun e w' => e = .returned (.bool (labelB s.data.toList)) ∧ w' = w := by
  have hl : s.data.toList.length = s.size := (Lib.size_eq s).symm
  obtain ⟨R, hR⟩ : ∃ R, R = labelB s.data.toList := ⟨_, rfl⟩
  have H := hide hR
  rw [← hR]
  clear hR
  go_enter Tryz.func71, Tryz.ntmps71
  go_wp2
  go_loopw [3] (fun v3 wr => ∃ i : Nat, i ≤ s.size ∧ v3 = .int .i64 i ∧ Hid (R = (decide (1 ≤ s.size) && decide (s.size ≤ 12) && (s.data.toList.drop i).all labelByte)) ∧ wr = w) (fun v3 _ => s.size - (intOf v3).toNat)
  case atStart => exact ⟨0, by omega, rfl, hide (by rw [H.out, labelB, hl]; rfl), rfl⟩
  case round =>
    obtain ⟨i, hi, rfl, HD, rfl⟩ := hrel
    by_cases hc : i < s.size
    · have z1 : (i : Int) < (s.size : Int) := by omega
      obtain ⟨X, hX, x0, x1, ix⟩ := at_string s i hc
      have hone := all_one labelByte s i hc
      have HO := hide (And.intro hX hone)
      clear hX hone
      by_cases g1 : X < 97
      · have hE := hide (show R = false by rw [HD.out, HO.out.2]; have := HO.out.1; have : labelByte (s[i]'hc) = false := (by unfold labelByte; simp; omega); rw [this, Bool.false_and, Bool.and_false])
        go_wp2
        go_ret
        exact ⟨by rw [hE.out]; rfl, rfl⟩
      · by_cases g2 : 122 < X
        · have hE := hide (show R = false by rw [HD.out, HO.out.2]; have := HO.out.1; have : labelByte (s[i]'hc) = false := (by unfold labelByte; simp; omega); rw [this, Bool.false_and, Bool.and_false])
          go_wp2
          go_ret
          exact ⟨by rw [hE.out]; rfl, rfl⟩
        · have hE := hide (show R = (decide (1 ≤ s.size) && decide (s.size ≤ 12) && (s.data.toList.drop (i + 1)).all labelByte) by rw [HD.out, HO.out.2]; have := HO.out.1; have : labelByte (s[i]'hc) = true := (by unfold labelByte; simp; omega); rw [this, Bool.true_and])
          go_wp2
          go_roundw
          case rel => exact ⟨i + 1, by omega, by go_num, hide hE.out, trivial⟩
          case measure => simp [intOf]; omega
    · have z1 : ¬ (i : Int) < (s.size : Int) := by omega
      have hE := hide (show R = (decide (1 ≤ s.size) && decide (s.size ≤ 12)) by rw [HD.out, List.drop_eq_nil_of_le (by omega)]; simp)
      by_cases g1 : 1 ≤ s.size
      · have y1 : (1 : Int) ≤ (s.size : Int) := by omega
        have d1 : decide (1 ≤ s.size) = true := by simpa using g1
        by_cases g2 : s.size ≤ 12
        · have y2 : (s.size : Int) ≤ 12 := by omega
          have d2 : decide (s.size ≤ 12) = true := by simpa using g2
          have hE2 := hide (hE.out.trans (by rw [d1, d2]))
          go_wp2
          go_ret
          exact ⟨by rw [hE2.out]; rfl, rfl⟩
        · have y2 : ¬ (s.size : Int) ≤ 12 := by omega
          have d2 : decide (s.size ≤ 12) = false := by simpa using g2
          have hE2 := hide (hE.out.trans (by rw [d1, d2]))
          go_wp2
          go_ret
          exact ⟨by rw [hE2.out]; rfl, rfl⟩
      · have y1 : ¬ (1 : Int) ≤ (s.size : Int) := by omega
        have d1 : decide (1 ≤ s.size) = false := by simpa using g1
        have hE2 := hide (hE.out.trans (by rw [d1, Bool.false_and]))
        go_wp2
        go_ret
        exact ⟨by rw [hE2.out]; rfl, rfl⟩

def cmpB (a b : ByteArray) : Int := Lib.compareBytes a.data.toList b.data.toList

def cmpI (a b : Int) : Int := if a < b then -1 else if b < a then 1 else 0

end Go.Proofs.YtkkpdgfllnbigaaGreatDoor
namespace Go.Proofs.YtkkpdgfllnbigaaGreatDoor
open Go.RowKit Go.Shelf
set_option linter.unusedSimpArgs false

abbrev bv (r : Int) (l : ByteArray) : Value := .agg #[.int .i64 r, .string l]
abbrev nv (r : Int) (l : ByteArray) (n : Int) : Value := .agg #[.int .i64 r, .string l, .int .i64 n]
abbrev sv (g r : Int) (l : ByteArray) (n x : Int) : Value := .agg #[.int .i64 g, .int .i64 r, .string l, .int .i64 n, .int .i64 x]
def cntV (n : Int) : Bool := decide (1 ≤ n) && decide (n ≤ 4611686018427387904)
def branchV (r : Int) (l : ByteArray) : Bool := decide (0 ≤ r) && decide (r < 8) && labelB l.data.toList
def nameV (r : Int) (l : ByteArray) (n : Int) : Bool := branchV r l && cntV n
def stampV (g r : Int) (l : ByteArray) (n x : Int) : Bool := cntV g && nameV r l n && (decide (0 ≤ x) && decide (x < 64))

theorem counts_any (n : Int) (w : World) : Calls Tryz.prog 57 #[.int .i64 n] w fun e w' => e = .returned (.bool (cntV n)) ∧ w' = w := by
  unfold cntV
  by_cases h1 : 1 ≤ n
  · have d1 : decide (1 ≤ n) = true := by simpa using h1
    by_cases h2 : n ≤ 4611686018427387904
    · have d2 : decide (n ≤ 4611686018427387904) = true := by simpa using h2
      rw [d1, d2]
      go_enter Tryz.func57, Tryz.ntmps57
      go_wp2
      go_ret
      exact ⟨rfl, rfl⟩
    · have d2 : decide (n ≤ 4611686018427387904) = false := by simpa using h2
      rw [d1, d2]
      go_enter Tryz.func57, Tryz.ntmps57
      go_wp2
      go_ret
      exact ⟨rfl, rfl⟩
  · have d1 : decide (1 ≤ n) = false := by simpa using h1
    rw [d1, Bool.false_and]
    go_enter Tryz.func57, Tryz.ntmps57
    go_wp2
    go_ret
    exact ⟨rfl, rfl⟩

theorem below_new (w : World) (o : Obj) : Below w.heap.size w (w.alloc o) := (Below.refl _ w).alloc (Nat.le_refl _) o

set_option maxHeartbeats 1000000 in
set_option maxRecDepth 100000 in
theorem branch_any (r : Int) (l : ByteArray) (w : World) : Calls Tryz.prog 86 #[bv r l] w fun e w' => e = .returned (.bool (branchV r l)) ∧ Below w.heap.size w w' := by
  have hb := below_new w (.cells #[.int .i64 r, .string l] 23)
  have hl := fun W => label_any l W
  unfold branchV
  generalize labelB l.data.toList = LB at hl ⊢
  by_cases h1 : 0 ≤ r
  · have d1 : decide (0 ≤ r) = true := by simpa using h1
    by_cases h2 : r < 8
    · have d2 : decide (r < 8) = true := by simpa using h2
      rw [d1, d2, Bool.true_and, Bool.true_and]
      go_enter Tryz.func86, Tryz.ntmps86
      go_wp2_with (go_at_call 101; refine (hl _).mono ?_; rintro e w1 ⟨rfl, b1⟩)
      go_ret
      exact ⟨rfl, hb.trans (b1.mono hb.size)⟩
    · have d2 : decide (r < 8) = false := by simpa using h2
      rw [d2, Bool.and_false, Bool.false_and]
      go_enter Tryz.func86, Tryz.ntmps86
      go_wp2
      go_ret
      exact ⟨rfl, hb⟩
  · have d1 : decide (0 ≤ r) = false := by simpa using h1
    rw [d1, Bool.false_and, Bool.false_and]
    go_enter Tryz.func86, Tryz.ntmps86
    go_wp2
    go_ret
    exact ⟨rfl, hb⟩
set_option maxHeartbeats 1000000 in
set_option maxRecDepth 100000 in
theorem refBranch_any (r : Int) (l : ByteArray) (w : World) (hs : l.size ≤ 9223372036854775807) : Calls Tryz.prog 44 #[bv r l] w fun e w' => e = .returned (.bool (branchV r l)) ∧ Below w.heap.size w w' := by
  have hb := below_new w (.cells #[.int .i64 r, .string l] 23)
  have hl := fun W => refLabel_any l W hs
  unfold branchV
  generalize labelB l.data.toList = LB at hl ⊢
  by_cases h1 : 0 ≤ r
  · have d1 : decide (0 ≤ r) = true := by simpa using h1
    by_cases h2 : r < 8
    · have d2 : decide (r < 8) = true := by simpa using h2
      rw [d1, d2, Bool.true_and, Bool.true_and]
      go_enter Tryz.func44, Tryz.ntmps44
      go_wp2_with (go_at_call 71; refine (hl _).mono ?_; rintro e w1 ⟨rfl, rfl⟩)
      go_ret
      exact ⟨rfl, hb⟩
    · have d2 : decide (r < 8) = false := by simpa using h2
      rw [d2, Bool.and_false, Bool.false_and]
      go_enter Tryz.func44, Tryz.ntmps44
      go_wp2
      go_ret
      exact ⟨rfl, hb⟩
  · have d1 : decide (0 ≤ r) = false := by simpa using h1
    rw [d1, Bool.false_and, Bool.false_and]
    go_enter Tryz.func44, Tryz.ntmps44
    go_wp2
    go_ret
    exact ⟨rfl, hb⟩

theorem three_new (w : World) (x y z : Value) (t : TypeId) : (w.alloc (.cells #[x, y, z] t)).cell? ⟨w.heap.size, 0, none⟩ = some x ∧ (w.alloc (.cells #[x, y, z] t)).cell? ⟨w.heap.size, 1, none⟩ = some y ∧ (w.alloc (.cells #[x, y, z] t)).cell? ⟨w.heap.size, 2, none⟩ = some z := by
  have h := heap_alloc_new w (.cells #[x, y, z] t)
  exact ⟨by rw [cell_of_row _ _ 0 _ t (0, 0) h]; rfl, by rw [cell_of_row _ _ 1 _ t (0, 0) h]; rfl, by rw [cell_of_row _ _ 2 _ t (0, 0) h]; rfl⟩
theorem kept {w w' : World} {p : Addr} {v : Value} (hb : Below w.heap.size w w') (h : w.cell? p = some v) : w'.cell? p = some v := (hb.cell (World.block_lt_of_cell? _ _ h)).trans h

set_option maxHeartbeats 1000000 in
set_option maxRecDepth 100000 in
theorem name_any (r : Int) (l : ByteArray) (n : Int) (w : World) : Calls Tryz.prog 58 #[nv r l n] w fun e w' => e = .returned (.bool (nameV r l n)) ∧ Below w.heap.size w w' := by
  have hb := below_new w (.cells #[.int .i64 r, .string l, .int .i64 n] 25)
  obtain ⟨p0, p1, p2⟩ := three_new w (.int .i64 r) (.string l) (.int .i64 n) 25
  have h1 := branch_any r l (w.alloc (.cells #[.int .i64 r, .string l, .int .i64 n] 25))
  have h2 := fun W => counts_any n W
  unfold nameV
  generalize branchV r l = B at h1 ⊢
  generalize cntV n = C at h2 ⊢
  cases B with
  | true =>
    rw [Bool.true_and]
    go_enter Tryz.func58, Tryz.ntmps58
    go_wp2_with (first
      | (go_at_call 86; refine h1.mono ?_; rintro e w1 ⟨rfl, b1⟩; have q2 := kept b1 p2)
      | (go_at_call 57; refine (h2 _).mono ?_; rintro e w2 ⟨rfl, rfl⟩))
    go_ret
    exact ⟨rfl, hb.trans (b1.mono hb.size)⟩
  | false =>
    rw [Bool.false_and]
    go_enter Tryz.func58, Tryz.ntmps58
    go_wp2_with (go_at_call 86; refine h1.mono ?_; rintro e w1 ⟨rfl, b1⟩; have q2 := kept b1 p2)
    go_ret
    exact ⟨rfl, hb.trans (b1.mono hb.size)⟩
set_option maxHeartbeats 1000000 in
set_option maxRecDepth 100000 in
theorem refName_any (r : Int) (l : ByteArray) (n : Int) (w : World) (hs : l.size ≤ 9223372036854775807) : Calls Tryz.prog 27 #[nv r l n] w fun e w' => e = .returned (.bool (nameV r l n)) ∧ Below w.heap.size w w' := by
  have hb := below_new w (.cells #[.int .i64 r, .string l, .int .i64 n] 25)
  obtain ⟨p0, p1, p2⟩ := three_new w (.int .i64 r) (.string l) (.int .i64 n) 25
  have h1 := refBranch_any r l (w.alloc (.cells #[.int .i64 r, .string l, .int .i64 n] 25)) hs
  unfold nameV cntV
  generalize branchV r l = B at h1 ⊢
  cases B with
  | true =>
    rw [Bool.true_and]
    by_cases g1 : 1 ≤ n
    · have d1 : decide (1 ≤ n) = true := by simpa using g1
      by_cases g2 : n ≤ 4611686018427387904
      · have d2 : decide (n ≤ 4611686018427387904) = true := by simpa using g2
        rw [d1, d2]
        go_enter Tryz.func27, Tryz.ntmps27
        go_wp2_with (go_at_call 44; refine h1.mono ?_; rintro e w1 ⟨rfl, b1⟩; have q2 := kept b1 p2)
        go_ret
        exact ⟨rfl, hb.trans (b1.mono hb.size)⟩
      · have d2 : decide (n ≤ 4611686018427387904) = false := by simpa using g2
        rw [d2, Bool.and_false]
        go_enter Tryz.func27, Tryz.ntmps27
        go_wp2_with (go_at_call 44; refine h1.mono ?_; rintro e w1 ⟨rfl, b1⟩; have q2 := kept b1 p2)
        go_ret
        exact ⟨rfl, hb.trans (b1.mono hb.size)⟩
    · have d1 : decide (1 ≤ n) = false := by simpa using g1
      rw [d1, Bool.false_and]
      go_enter Tryz.func27, Tryz.ntmps27
      go_wp2_with (go_at_call 44; refine h1.mono ?_; rintro e w1 ⟨rfl, b1⟩; have q2 := kept b1 p2)
      go_ret
      exact ⟨rfl, hb.trans (b1.mono hb.size)⟩
  | false =>
    rw [Bool.false_and]
    go_enter Tryz.func27, Tryz.ntmps27
    go_wp2_with (go_at_call 44; refine h1.mono ?_; rintro e w1 ⟨rfl, b1⟩; have q2 := kept b1 p2)
    go_ret
    exact ⟨rfl, hb.trans (b1.mono hb.size)⟩

theorem five_new (w : World) (x y z u v : Value) (t : TypeId) : (w.alloc (.cells #[x, y, z, u, v] t)).cell? ⟨w.heap.size, 0, none⟩ = some x ∧ (w.alloc (.cells #[x, y, z, u, v] t)).cell? ⟨w.heap.size, 1, none⟩ = some y ∧ (w.alloc (.cells #[x, y, z, u, v] t)).cell? ⟨w.heap.size, 2, none⟩ = some z ∧ (w.alloc (.cells #[x, y, z, u, v] t)).cell? ⟨w.heap.size, 3, none⟩ = some u ∧ (w.alloc (.cells #[x, y, z, u, v] t)).cell? ⟨w.heap.size, 4, none⟩ = some v := by
  have h := heap_alloc_new w (.cells #[x, y, z, u, v] t)
  exact ⟨by rw [cell_of_row _ _ 0 _ t (0, 0) h]; rfl, by rw [cell_of_row _ _ 1 _ t (0, 0) h]; rfl, by rw [cell_of_row _ _ 2 _ t (0, 0) h]; rfl, by rw [cell_of_row _ _ 3 _ t (0, 0) h]; rfl, by rw [cell_of_row _ _ 4 _ t (0, 0) h]; rfl⟩

set_option maxHeartbeats 1000000 in
set_option maxRecDepth 100000 in
theorem stamp_any (g r : Int) (l : ByteArray) (n x : Int) (w : World) : Calls Tryz.prog 37 #[sv g r l n x] w fun e w' => e = .returned (.bool (stampV g r l n x)) ∧ Below w.heap.size w w' := by
  have hb := below_new w (.cells #[.int .i64 g, .int .i64 r, .string l, .int .i64 n, .int .i64 x] 27)
  obtain ⟨p0, p1, p2, p3, p4⟩ := five_new w (.int .i64 g) (.int .i64 r) (.string l) (.int .i64 n) (.int .i64 x) 27
  have h1 := counts_any g (w.alloc (.cells #[.int .i64 g, .int .i64 r, .string l, .int .i64 n, .int .i64 x] 27))
  have h2 := name_any r l n (w.alloc (.cells #[.int .i64 g, .int .i64 r, .string l, .int .i64 n, .int .i64 x] 27))
  unfold stampV
  generalize cntV g = C at h1 ⊢
  generalize nameV r l n = B at h2 ⊢
  cases C with
  | false =>
    rw [Bool.false_and, Bool.false_and]
    go_enter Tryz.func37, Tryz.ntmps37
    go_wp2_with (go_at_call 57; refine h1.mono ?_; rintro e w1 ⟨rfl, rfl⟩)
    go_ret
    exact ⟨rfl, hb⟩
  | true =>
    cases B with
    | false =>
      rw [Bool.true_and, Bool.false_and]
      go_enter Tryz.func37, Tryz.ntmps37
      go_wp2_with (first
        | (go_at_call 57; refine h1.mono ?_; rintro e w1 ⟨rfl, hw⟩; have hwx := hw.symm; clear hw; subst hwx)
        | (go_at_call 58; refine h2.mono ?_; rintro e w2 ⟨rfl, b2⟩))
      go_ret
      exact ⟨rfl, hb.trans (b2.mono hb.size)⟩
    | true =>
      rw [Bool.true_and, Bool.true_and]
      by_cases g1 : 0 ≤ x
      · have d1 : decide (0 ≤ x) = true := by simpa using g1
        by_cases g2 : x < 64
        · have d2 : decide (x < 64) = true := by simpa using g2
          rw [d1, d2]
          go_enter Tryz.func37, Tryz.ntmps37
          go_wp2_with (first
            | (go_at_call 57; refine h1.mono ?_; rintro e w1 ⟨rfl, hw⟩; have hwx := hw.symm; clear hw; subst hwx)
            | (go_at_call 58; refine h2.mono ?_; rintro e w2 ⟨rfl, b2⟩; have q4 := kept b2 p4))
          go_ret
          exact ⟨rfl, hb.trans (b2.mono hb.size)⟩
        · have d2 : decide (x < 64) = false := by simpa using g2
          rw [d2, Bool.and_false]
          go_enter Tryz.func37, Tryz.ntmps37
          go_wp2_with (first
            | (go_at_call 57; refine h1.mono ?_; rintro e w1 ⟨rfl, hw⟩; have hwx := hw.symm; clear hw; subst hwx)
            | (go_at_call 58; refine h2.mono ?_; rintro e w2 ⟨rfl, b2⟩; have q4 := kept b2 p4))
          go_ret
          exact ⟨rfl, hb.trans (b2.mono hb.size)⟩
      · have d1 : decide (0 ≤ x) = false := by simpa using g1
        rw [d1, Bool.false_and]
        go_enter Tryz.func37, Tryz.ntmps37
        go_wp2_with (first
          | (go_at_call 57; refine h1.mono ?_; rintro e w1 ⟨rfl, hw⟩; have hwx := hw.symm; clear hw; subst hwx)
          | (go_at_call 58; refine h2.mono ?_; rintro e w2 ⟨rfl, b2⟩; have q4 := kept b2 p4))
        go_ret
        exact ⟨rfl, hb.trans (b2.mono hb.size)⟩
set_option maxHeartbeats 1000000 in
set_option maxRecDepth 100000 in
theorem refStamp_any (g r : Int) (l : ByteArray) (n x : Int) (w : World) (hs : l.size ≤ 9223372036854775807) : Calls Tryz.prog 9 #[sv g r l n x] w fun e w' => e = .returned (.bool (stampV g r l n x)) ∧ Below w.heap.size w w' := by
  have hb := below_new w (.cells #[.int .i64 g, .int .i64 r, .string l, .int .i64 n, .int .i64 x] 27)
  obtain ⟨p0, p1, p2, p3, p4⟩ := five_new w (.int .i64 g) (.int .i64 r) (.string l) (.int .i64 n) (.int .i64 x) 27
  have h2 := refName_any r l n (w.alloc (.cells #[.int .i64 g, .int .i64 r, .string l, .int .i64 n, .int .i64 x] 27)) hs
  unfold stampV cntV
  generalize nameV r l n = B at h2 ⊢
  by_cases k1 : 1 ≤ g
  · have e1 : decide (1 ≤ g) = true := by simpa using k1
    by_cases k2 : g ≤ 4611686018427387904
    · have e2 : decide (g ≤ 4611686018427387904) = true := by simpa using k2
      rw [e1, e2, Bool.true_and]
      cases B with
      | false =>
        rw [Bool.true_and, Bool.false_and]
        go_enter Tryz.func9, Tryz.ntmps9
        go_wp2_with (go_at_call 27; refine h2.mono ?_; rintro e w2 ⟨rfl, b2⟩)
        go_ret
        exact ⟨rfl, hb.trans (b2.mono hb.size)⟩
      | true =>
        rw [Bool.true_and, Bool.true_and]
        by_cases g1 : 0 ≤ x
        · have d1 : decide (0 ≤ x) = true := by simpa using g1
          by_cases g2 : x < 64
          · have d2 : decide (x < 64) = true := by simpa using g2
            rw [d1, d2]
            go_enter Tryz.func9, Tryz.ntmps9
            go_wp2_with (go_at_call 27; refine h2.mono ?_; rintro e w2 ⟨rfl, b2⟩; have q4 := kept b2 p4)
            go_ret
            exact ⟨rfl, hb.trans (b2.mono hb.size)⟩
          · have d2 : decide (x < 64) = false := by simpa using g2
            rw [d2, Bool.and_false]
            go_enter Tryz.func9, Tryz.ntmps9
            go_wp2_with (go_at_call 27; refine h2.mono ?_; rintro e w2 ⟨rfl, b2⟩; have q4 := kept b2 p4)
            go_ret
            exact ⟨rfl, hb.trans (b2.mono hb.size)⟩
        · have d1 : decide (0 ≤ x) = false := by simpa using g1
          rw [d1, Bool.false_and]
          go_enter Tryz.func9, Tryz.ntmps9
          go_wp2_with (go_at_call 27; refine h2.mono ?_; rintro e w2 ⟨rfl, b2⟩; have q4 := kept b2 p4)
          go_ret
          exact ⟨rfl, hb.trans (b2.mono hb.size)⟩
    · have e2 : decide (g ≤ 4611686018427387904) = false := by simpa using k2
      rw [e2, Bool.and_false, Bool.false_and, Bool.false_and]
      go_enter Tryz.func9, Tryz.ntmps9
      go_wp2
      go_ret
      exact ⟨rfl, hb⟩
  · have e1 : decide (1 ≤ g) = false := by simpa using k1
    rw [e1, Bool.false_and, Bool.false_and, Bool.false_and]
    go_enter Tryz.func9, Tryz.ntmps9
    go_wp2
    go_ret
    exact ⟨rfl, hb⟩
end Go.Proofs.YtkkpdgfllnbigaaGreatDoor
