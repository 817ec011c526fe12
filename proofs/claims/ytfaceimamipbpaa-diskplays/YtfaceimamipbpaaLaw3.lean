/-
  WALKS over what the statements lend: over, lent, left.
-/
import Derived.Test.YtfaceimamipbpaaRef3
namespace Go.Proofs.Ytfaceimamipbpaa
open Go.RowKit
set_option linter.unusedSimpArgs false

set_option maxHeartbeats 1000000 in
set_option maxRecDepth 100000 in
/-- Bytes that are owned are written over. -/
theorem over_any (ao : Option Addr) (c B : Nat) (l : List Int) (w : World) (ho : Own 5 w B (.slice ao l.length c) l) (hl : l.length ≤ 140737488355328) :
    Calls Try.prog 29 #[.slice ao l.length c] w fun e w' => (∃ v, e = .returned v) ∧ Only (fun k => Value.ownBlock (.slice ao l.length c) = some k) w w' := by
  go_enter Try.func29, Try.ntmps29
  go_wp2
  go_loopw [2] (fun i wr => ∃ (k : Nat) (l' : List Int), k ≤ l.length ∧ i = .int .i64 k ∧ l'.length = l.length ∧ Own 5 wr B (.slice ao l.length c) l' ∧ Only (fun k => Value.ownBlock (.slice ao l.length c) = some k) w wr) (fun i _ => l.length - (intOf i).toNat)
  case atStart => exact ⟨0, l, Nat.zero_le _, rfl, rfl, ho, Only.refl _ _⟩
  case round =>
    obtain ⟨k, l', hk, rfl, hl', ho', hon⟩ := hrel
    by_cases hlt : k < l.length
    · obtain ⟨g, rfl, hc, hf, _, _, hst⟩ := ho'.store (k := k) (by omega)
      have hki : (k : Int) < (l.length : Int) := by omega
      have hdn : decide (k < l.length) = true := by simpa using hlt
      have hst' := hide (hst 99)
      clear hst ho ho'
      go_wp2
      go_roundw
      case rel => exact ⟨k + 1, l'.set k 99, by omega, by go_num, by simpa using hl', hst'.out.1, hon.trans (Only.ofGrown hst'.out.2) (fun j _ hj => by simpa [Value.ownBlock] using hj)⟩
      case measure => simp [intOf]; omega
    · obtain rfl : k = l.length := by omega
      have hdn : decide (l.length < l.length) = false := by simp
      go_wp2
      go_end0
      exact ⟨⟨_, rfl⟩, hon⟩

/-- Bytes that were lent, with a mark behind them. -/
structure Lent (w : World) (B : Nat) (mo : Option Addr) (c : Nat) (l : List Int) : Prop where
  own : Own 5 w B (.slice mo l.length c) l
  mark : ∃ g, mo = some ⟨g, 0, none⟩ ∧ w.cell? ⟨g, l.length, none⟩ = some (.int .u8 165) ∧ B ≤ g ∧ g < w.heap.size
  cap : l.length + 1 ≤ c
theorem Lent.only {w w' : World} {B c : Nat} {mo : Option Addr} {l : List Int} {D : Nat → Prop} (h : Lent w B mo c l) (k : Only D w w') (hD : ∀ j, Value.ownBlock (.slice mo l.length c) = some j → ¬ D j) : Lent w' B mo c l := by
  obtain ⟨g, rfl, hm, hb, hg⟩ := h.mark
  have hn : ¬ D g := hD g rfl
  exact ⟨k.own h.own hD, ⟨g, rfl, k.cell hm hn, hb, Nat.lt_of_lt_of_le hg k.size⟩, h.cap⟩
theorem Lent.below {w w' : World} {B c : Nat} {mo : Option Addr} {l : List Int} (h : Lent w B mo c l) (k : Below w.heap.size w w') : Lent w' B mo c l := h.only (Only.ofBelow k) (fun _ _ d => d.elim)

theorem slice_upto {w : World} {a : Addr} {n cap j : Nat} (hj : j ≤ cap) : (Instr.slice 22 (.slice (some a) n cap) none (some (.int .i64 j)) none).run Try.prog w = .ok (.slice (some a) j cap) w := by
  have h2 : (0 : Int) ≤ (j : Int) ∧ (j : Int) ≤ (cap : Int) := by omega
  by_cases hc : cap = 0
  · subst hc
    simp [Instr.slice, Instr.sliceBounds, Instr.sliceBound, asIntOf, run_underlying Try.underlying22, go_sem, hj]
  · simp [Instr.slice, Instr.sliceBounds, Instr.sliceBound, asIntOf, run_underlying Try.underlying22, go_sem, hj, hc, Addr.add]

theorem wpList_cut {ops : Array Oper} {rest : List Oper} {o : Oper} {a : Act} {w : World} {Q : Exit → Act → World → Prop} (hgd : o.guard = none) (x j : Operand) (ho : o.op = .slice 22 x none (some j) none) (ad : Addr) (n cap k : Nat) (hx : a.eval x = .slice (some ad) n cap) (hj : a.eval j = .int .i64 (k : Int)) (hk : k ≤ cap)
    (h : wpList Try.prog ops Q rest (a.put o.dst (.slice (some ad) k cap)) w) : wpList Try.prog ops Q (o :: rest) a w :=
  wpList_plain hgd fun K hK => by
    unfold Oper.wp execOp
    simp only [ho, hx, hj, Option.map_some, Option.map_none, Sem.run_bind]
    have hs : (Instr.sliceAt 22 (.slice (some ad) n cap) none (some (.int .i64 (k : Int))) none).run Try.prog w = .ok (.slice (some ad) k cap) w := by
      have := slice_upto (w := w) (a := ad) (n := n) hk
      simpa [Instr.sliceAt] using this
    rw [hs]
    exact hK _ _ h

set_option maxHeartbeats 1000000 in
set_option maxRecDepth 100000 in
theorem lent_any (ao : Option Addr) (c : Nat) (l : List Int) (w : World) (hr : Rd w ao l) (hn : ao = none → c = 0) (hl : l.length ≤ 140737488351232) :
    Calls Try.prog 7 #[.slice ao l.length c] w fun e w' => ∃ mo mc, e = .returned (.slice mo l.length mc) ∧ Lent w' w.heap.size mo mc l ∧ Below w.heap.size w w' := by
  obtain ⟨i0, hi, hz0, hz1, hz2⟩ := info_parts Try.info5
  go_enter Try.func7, Try.ntmps7
  go_wp2_with (first
    | (refine wpList_append_rd (w := w) rfl (.const (.slice none 0 0)) (.tmp 4) 22 rfl w.heap.size 5 i0 Try.underlying22 hi hz0 hz1 hz2 (.slice none 0 0) [] rfl (Own.nil _ _ _) ao c l rfl hn hr (by simp; omega) (Nat.le_refl _) ?_; intro ao2 cap2 w2 hown2 hg2 hnil2; have hown2' : Own 5 w2 w.heap.size (.slice ao2 l.length cap2) l := (by simpa using hown2); have b2 : Below w.heap.size w w2 := (Below.refl _ w).grown hg2 (Nat.le_refl _) (fun k hk => by simp [Value.ownBlock] at hk); have hs2 := b2.size; have hcell : (w2.alloc (.cells #[.int .u8 165] 5)).cell? ⟨w2.heap.size, 0, none⟩ = some (.int .u8 165) := (by rw [cell_of_row _ _ 0 _ 5 (0, 0) (heap_alloc_new w2 _)]; rfl); simp only [List.length_nil, Nat.zero_add])
    | (refine wpList_push (w := w2.alloc (.cells #[.int .u8 165] 5)) rfl (.tmp 5) (.tmp 6) 22 rfl w.heap.size 5 i0 Try.underlying22 hi hz0 hz1 hz2 (.slice ao2 l.length cap2) l rfl (hown2'.alloc _) ⟨w2.heap.size, 0, none⟩ 1 165 rfl hcell (by omega) (by simp; omega) ?_; intro ao3 cap3 w3 hown3 hg3 hnil3; obtain ⟨g, c3, cur, hv3, hb3, hc3, hn3, hm3, hs3, ht3⟩ := (show ∃ g cap cur, Value.slice ao3 (l.length + 1) cap3 = .slice (some ⟨g, 0, none⟩) (l ++ [165]).length cap ∧ w.heap.size ≤ g ∧ w3.heap[g]? = some (.cells cur 5 (0, 0)) ∧ (l ++ [165]).length ≤ cap ∧ cap ≤ maxLen ∧ cur.size = cap * 1 ∧ cur.toList.take ((l ++ [165]).length * 1) = u8s (l ++ [165]) from (by rcases hown3.2 with ⟨q, _⟩ | q; (· simp at q); exact q)); simp only [Value.slice.injEq] at hv3; obtain ⟨rfl, _, rfl⟩ := hv3; have hle1 : l.length + 1 ≤ cap3 := (by simpa using hn3); have hle2 : l.length ≤ cap3 := (by omega); have hle3 : (l.length : Int) ≤ (cap3 : Int) := (by omega); have hle4 : (0 : Int) ≤ (l.length : Int) := (by omega)))
  simp only [Act.put, List.setIfInBounds_toArray, List.set_cons_zero, List.set_cons_succ]
  have HZ := hide (And.intro hown2' (And.intro b2 (And.intro hs2 (And.intro hg3 (And.intro hb3 (And.intro hc3 (And.intro hm3 (And.intro hs3 ht3))))))))
  have HL := hide (And.intro hle1 hle2)
  clear hown2 hown2' b2 hs2 hg2 hg3 hb3 hc3 hm3 hs3 ht3 hown3 hn3 hcell hnil3 hnil2 hle1 hle2 hle3 hi hz0 hz1 hz2 hr hn hle4
  go_wp2_with (refine wpList_cut rfl (.tmp 8) (.tmp 10) rfl ⟨g, 0, none⟩ (l.length + 1) cap3 l.length rfl rfl HL.out.2 ?_)
  simp only [Act.put, List.setIfInBounds_toArray, List.set_cons_zero, List.set_cons_succ]
  go_wp2
  go_ret
  obtain ⟨hown2', b2, hs2, hg3, hb3, hc3, hm3, hs3, ht3⟩ := HZ.out
  obtain ⟨hle1, hle2⟩ := HL.out
  have hb3' : Below w.heap.size w w3 := (b2.alloc (by omega) _).grown hg3 (by simp; omega) (fun k hk => (World.ownsRow.lt hown2' k hk).1)
  have hgl : g < w3.heap.size := (Array.getElem?_eq_some_iff.1 hc3).1
  have ht3' : cur.toList.take (l.length + 1) = u8s (l ++ [165]) := by simpa using ht3
  refine ⟨some ⟨g, 0, none⟩, cap3, rfl, ⟨⟨?_, .inr ⟨g, cap3, cur, rfl, hb3, hc3, hle2, hm3, hs3, ?_⟩⟩, ⟨g, rfl, ?_, hb3, hgl⟩, hle1⟩, hb3'⟩
  · simp [u8s]
  · have := congrArg (List.take l.length) ht3'
    rw [List.take_take, Nat.min_eq_left (by omega)] at this
    rw [Nat.mul_one, this]
    simp [u8s]
  · rw [cell_of_row w3 g l.length cur 5 (0, 0) hc3]
    have h1 : (cur.toList.take (l.length + 1))[l.length]? = (u8s (l ++ [165]))[l.length]? := by rw [ht3']
    rw [List.getElem?_take, if_pos (by omega)] at h1
    rw [← Array.getElem?_toList, h1]
    simp [u8s]

set_option maxHeartbeats 1000000 in
set_option maxRecDepth 100000 in
theorem left_any (mo bo : Option Addr) (mc bc B : Nat) (l : List Int) (w : World) (hm : Lent w B mo mc l) (hb : Rd w bo l) (hl : l.length ≤ 140737488351232) :
    Calls Try.prog 10 #[.slice mo l.length mc, .slice bo l.length bc] w fun e w' => e = .returned (.bool true) ∧ Only (fun k => Value.ownBlock (.slice mo l.length mc) = some k) w w' := by
  have h1 := conv_rd (n := l.length) (cap := mc) hm.own.rd rfl
  have h2 := conv_rd (n := l.length) (cap := bc) hb rfl
  have ho := over_any mo mc B l w hm.own (by omega)
  obtain ⟨g, rfl, hc, _, _⟩ := hm.mark
  have hcap := hm.cap
  have hci : (l.length : Int) + 1 ≤ (mc : Int) := by omega
  clear hm hb
  go_enter Try.func10, Try.ntmps10
  go_wp2_with (go_at_call 29; refine ho.mono ?_; rintro e w2 ⟨⟨v, rfl⟩, hon⟩)
  go_ret
  exact ⟨by simp, hon⟩
end Go.Proofs.Ytfaceimamipbpaa
