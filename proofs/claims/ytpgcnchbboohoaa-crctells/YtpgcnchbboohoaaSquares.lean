/-
  WALKS over squares of tables, and going far by them (the program's).
-/
import Derived.Test.YtpgcnchbboohoaaTabs2
namespace Go.Proofs.Ytpgcnchbboohoaa
open Go.RowKit Crc

theorem rangeAt_set {w : World} {b : Nat} {cs : List Value} (h : w.rangeAt b 0 cs) {k : Nat} (hk : k < cs.length) (v : Value) : (w.setCell ⟨b, k, none⟩ v).rangeAt b 0 (cs.set k v) := fun j u hu => by
  rw [List.getElem?_set] at hu
  by_cases e : k = j
  · subst e
    rw [if_pos rfl, if_pos hk] at hu
    cases hu
    rw [Nat.zero_add]
    have := h k _ (List.getElem?_eq_getElem hk)
    rw [Nat.zero_add] at this
    exact World.cell?_setCell_same _ _ _ this
  · rw [if_neg e] at hu
    rw [World.cell?_setCell_other _ _ _ _ (by intro hc; simp at hc; done)]
    exact h j u hu
theorem rangeAt_set_other {w : World} {b c : Nat} {cs : List Value} (h : w.rangeAt b 0 cs) (k : Nat) (v : Value) (hne : c ≠ b) : (w.setCell ⟨c, k, none⟩ v).rangeAt b 0 cs := fun j u hu => by
  rw [World.cell?_setCell_other _ _ _ _ (by intro hc; simp at hc; done)]
  exact h j u hu
theorem there_set {w : World} {b c n : Nat} (h : w.there b 0 n) (k : Nat) (v : Value) : (w.setCell ⟨c, k, none⟩ v).there b 0 n := by
  have := World.there_setCells h c k [v]
  simpa [World.setCells] using this
theorem rangeAt_below {B : Nat} {w w' : World} {b : Nat} {cs : List Value} (h : w.rangeAt b 0 cs) (hb : Below B w w') (hB : b < B) : w'.rangeAt b 0 cs := fun j u hu => by
  rw [hb.cell (p := ⟨b, 0 + j, none⟩) hB]; exact h j u hu
theorem there_below {B : Nat} {w w' : World} {b n : Nat} (h : w.there b 0 n) (hb : Below B w w') (hB : b < B) : w'.there b 0 n := fun j hj => by
  rw [hb.cell (p := ⟨b, 0 + j, none⟩) hB, hb.frozen (p := ⟨b, 0 + j, none⟩) hB]; exact h j hj
theorem rangeAt_cell {w : World} {b : Nat} {cs : List Value} (h : w.rangeAt b 0 cs) {k : Nat} {v : Value} (hv : cs[k]? = some v) : w.cell? ⟨b, k, none⟩ = some v := by
  have := h k v hv
  rwa [Nat.zero_add] at this
theorem there_free {w : World} {b n : Nat} (h : w.there b 0 n) {k : Nat} (hk : k < n) : w.frozen? ⟨b, k, none⟩ = false := by
  have := (h k hk).2
  rwa [Nat.zero_add] at this

/-- A table that turns into another one, number by number. -/
def mix (f g : Nat → Nat) (k i : Nat) : Nat := if i < k then f i else g i
theorem mix_zero (f g : Nat → Nat) : mix f g 0 = g := by funext i; simp [mix]
theorem tab_full {n : Nat} {f g : Nat → Nat} (h : ∀ i, i < n → f i = g i) : tab n f n = tab n g n := by
  apply List.ext_getElem?
  intro i
  by_cases hi : i < n
  · rw [tab_at hi, tab_at hi, if_pos hi, if_pos hi, h i hi]
  · rw [List.getElem?_eq_none (by rw [tab_length]; omega), List.getElem?_eq_none (by rw [tab_length]; omega)]
theorem tab_mix_set {n k : Nat} {f g : Nat → Nat} (h : k < n) : (tab n (mix f g k) n).set k (.int .u32 (f k : Nat)) = tab n (mix f g (k + 1)) n := by
  apply List.ext_getElem?
  intro i
  rw [List.getElem?_set, tab_length]
  by_cases hi : k = i
  · subst hi; rw [if_pos rfl, if_pos h, tab_at h, if_pos h, mix, if_pos (by omega)]
  · rw [if_neg hi]
    by_cases hn : i < n
    · rw [tab_at hn, tab_at hn, if_pos hn, if_pos hn, mix, mix]
      congr 3
      by_cases h1 : i < k
      · rw [if_pos h1, if_pos (by omega)]
      · rw [if_neg h1, if_neg (by omega)]
    · rw [List.getElem?_eq_none (by rw [tab_length]; omega), List.getElem?_eq_none (by rw [tab_length]; omega)]
theorem tab_mix_done {n : Nat} {f g : Nat → Nat} : tab n (mix f g n) n = tab n f n := tab_full fun i hi => by rw [mix, if_pos hi]

/-- A table into the block that was made last. -/
theorem wpList_store_new {P : Program} {ops : Array Oper} {rest : List Oper} {op : Oper} {a : Act} {W : World} {c : Array Value} {Q : Exit → Act → World → Prop} (ty : TypeId) (x y : Operand) (b n : Nat) (cs : List Value) (hgd : op.guard = none) (hdn : op.dst = none) (ho : op.op = .store ty x y)
    (hx : a.eval x = .pointer (some ⟨b, 0, none⟩)) (hy : a.eval y = .agg cs.toArray) (hi : (P.info? ty).map (·.size) = some n) (hn : cs.length = n) (hc : c.size = n) (hb : W.heap.size = b) (h1 : ∀ v ∈ cs, v.oneCell' = true)
    (h : wpList P ops Q rest a (W.alloc (.cells cs.toArray ty))) : wpList P ops Q (op :: rest) a (W.alloc (.cells c ty)) := by
  subst hb
  refine wpList_plain hgd fun K hK => ?_
  unfold Oper.wp execOp
  simp only [ho, hx, hy]
  rw [Sem.run_bind, run_storeAt_new W ty c cs.toArray (by rw [hi, List.size_toArray, hn]) (by rw [hc, List.size_toArray, hn]) (all_oneCell_toArray h1)]
  show K (a.put op.dst undef) _
  rw [hdn]
  exact hK _ _ h

theorem grown_setCell (w : World) (a : Addr) (v : Value) : w.grownBy (w.setCell a v) (some a.block) :=
  ⟨rfl, rfl, rfl, by simp, fun k _ hk => Below.heap_setCell w a v k (by intro e; subst e; exact hk rfl)⟩
theorem grown_trans {w w1 w2 : World} {row : Option Nat} (h1 : w.grownBy w1 row) (h2 : w1.grownBy w2 row) : w.grownBy w2 row :=
  ⟨h2.os.trans h1.os, h2.tape.trans h1.tape, h2.output.trans h1.output, Nat.le_trans h1.size h2.size, fun k hk hne => (h2.block k (Nat.lt_of_lt_of_le hk h1.size) hne).trans (h1.block k hk hne)⟩
theorem grown_setCells (b : Nat) : ∀ (vs : List Value) (o : Nat) (w : World), w.grownBy (w.setCells b o vs) (some b)
  | [], _, w => World.grownBy.refl w _
  | v :: r, o, w => by rw [World.setCells]; exact grown_trans (grown_setCell w ⟨b, o, none⟩ v) (grown_setCells b r (o + 1) _)
/-- A whole table into a block: the world behind it by what it is good for. -/
theorem wpList_store_own {P : Program} {ops : Array Oper} {rest : List Oper} {op : Oper} {a : Act} {w : World} {Q : Exit → Act → World → Prop} (ty : TypeId) (x y : Operand) (b n : Nat) (cs : List Value) (hgd : op.guard = none) (hdn : op.dst = none) (ho : op.op = .store ty x y)
    (hx : a.eval x = .pointer (some ⟨b, 0, none⟩)) (hy : a.eval y = .agg cs.toArray) (hi : (P.info? ty).map (·.size) = some n) (hn : cs.length = n) (ht : w.there b 0 n) (h1 : ∀ v ∈ cs, v.oneCell' = true)
    (h : ∀ w', w.grownBy w' (some b) → w'.rangeAt b 0 cs → w'.there b 0 n → wpList P ops Q rest a w') : wpList P ops Q (op :: rest) a w :=
  wpList_store_tab ty x y b n cs hgd hdn ho hx hy hi hn ht h1
    (h _ (grown_setCells b cs 0 w) (World.rangeAt_setCells_same _ _ _ _ (by rw [hn]; exact ht)) (World.there_setCells ht b 0 cs))

set_option maxHeartbeats 400000 in
set_option maxRecDepth 100000 in
theorem square_any (m : Nat → Nat) (w : World) (hm : ∀ j, m j < 4294967296) :
    Calls Try.prog 24 #[.agg (tab 32 m 32).toArray] w fun e w' => e = .returned (.agg (tab 32 (fun i => thr m (m i) 32) 32).toArray) ∧ Below w.heap.size w w' := by
  obtain ⟨hz, hi⟩ := zero_of_info (P := Try.prog) Try.info42
  have hr0 := rangeAt_new w (tab 32 m 32) 42
  go_enter Try.func24, Try.ntmps24
  go_wp2_with (first
    | refine wpList_load_tab 42 (.tmp 1) w.heap.size 32 (tab 32 m 32) rfl rfl rfl Try.underlying42 hi (tab_length _ _ _) (World.rangeAt_alloc hr0 _) ?_
    | refine wpList_load_tab 42 (.tmp 1) w.heap.size 32 (tab 32 m 32) rfl rfl rfl Try.underlying42 hi (tab_length _ _ _) (World.rangeAt_alloc (World.rangeAt_alloc hr0 _) _) ?_
    | refine wpList_store_new 42 (.tmp 3) (.tmp 6) (w.heap.size + 1 + 1) 32 (tab 32 m 32) rfl rfl rfl rfl rfl hi (tab_length _ _ _) (by simp) (by simp) (tab_one _ _ _) ?_)
  go_loopw [8] (fun i wr => ∃ k : Nat, k ≤ 32 ∧ i = .int .i64 k ∧ Below w.heap.size w wr ∧ w.heap.size + 3 ≤ wr.heap.size ∧ wr.rangeAt w.heap.size 0 (tab 32 m 32) ∧ wr.there (w.heap.size + 1) 0 32 ∧
    wr.rangeAt (w.heap.size + 2) 0 (tab 32 (mix (fun i => thr m (m i) 32) m k) 32) ∧ wr.there (w.heap.size + 2) 0 32) (fun i _ => 32 - (intOf i).toNat)
  case atStart =>
    refine ⟨0, by omega, rfl, ?_, by simp, World.rangeAt_alloc (World.rangeAt_alloc hr0 _) _, World.there_alloc ?_ _, ?_, ?_⟩
    · exact (((Below.refl _ _).alloc (Nat.le_refl _) _).alloc (by simp) _).alloc (by simp; omega) _
    · have := there_new (w.alloc (.cells (tab 32 m 32).toArray 42)) (List.replicate 32 (.int .u32 0)) 42
      rw [show (w.alloc (Obj.cells (tab 32 m 32).toArray 42)).heap.size = w.heap.size + 1 by simp, List.length_replicate] at this
      exact this
    · rw [mix_zero]
      have := rangeAt_new ((w.alloc (.cells (tab 32 m 32).toArray 42)).alloc (.cells (Array.replicate 32 (.int .u32 0)) 42)) (tab 32 m 32) 42
      rw [show ((w.alloc (Obj.cells (tab 32 m 32).toArray 42)).alloc (.cells (Array.replicate 32 (.int .u32 0)) 42)).heap.size = w.heap.size + 2 by simp] at this
      exact this
    · have := there_new ((w.alloc (.cells (tab 32 m 32).toArray 42)).alloc (.cells (Array.replicate 32 (.int .u32 0)) 42)) (tab 32 m 32) 42
      rw [show ((w.alloc (Obj.cells (tab 32 m 32).toArray 42)).alloc (.cells (Array.replicate 32 (.int .u32 0)) 42)).heap.size = w.heap.size + 2 by simp, tab_length] at this
      exact this
  case round =>
    obtain ⟨k, hk, rfl, hb, hsz, hr, ht1, hr2, ht2⟩ := hrel
    by_cases h : k < 32
    · have hat : ∀ w, (Instr.index 42 (.agg (tab 32 m 32).toArray) (.int .i64 k)).run Try.prog w = .ok (.int .u32 (m k : Nat)) w := fun w => index_tab _ k _ h (by rw [tab_at h, if_pos h]) w
      have hmk := hm k
      go_wp2_with (first
        | refine wpList_load_tab 42 (.tmp 1) w.heap.size 32 (tab 32 m 32) rfl rfl rfl Try.underlying42 hi (tab_length _ _ _) hr ?_
        | (go_at_call 23; refine (apply_any m (m k) _ hmk hm).mono ?_; rintro e w1 ⟨rfl, hb1⟩; have hr2' := rangeAt_below hr2 hb1 (by omega); have ht2' := there_below ht2 hb1 (by omega); have hc2 := rangeAt_cell (k := k) hr2' (by rw [tab_at h]); have hf2 := there_free ht2' h))
      go_roundw
      case rel =>
        refine ⟨k + 1, by omega, by go_num, (hb.trans (hb1.mono (by omega))).setCell (show w.heap.size ≤ w.heap.size + 1 + 1 by omega) _, ?_, ?_, ?_, ?_, ?_⟩
        · have := hb1.size; simp; omega
        · exact rangeAt_set_other (rangeAt_below hr hb1 (by omega)) _ _ (by omega)
        · exact there_set (there_below ht1 hb1 (by omega)) _ _
        · have := rangeAt_set (k := k) hr2' (by rw [tab_length]; omega) (.int .u32 (thr m (m k) 32 : Nat))
          rw [tab_mix_set (f := fun i => thr m (m i) 32) h] at this
          exact this
        · exact there_set ht2' _ _
      case measure => simp [intOf]; omega
    · obtain rfl : k = 32 := by omega
      rw [tab_mix_done] at hr2
      go_wp2_with (first
        | refine wpList_load_tab 42 (.tmp 3) (w.heap.size + 1 + 1) 32 (tab 32 (fun i => thr m (m i) 32) 32) rfl rfl rfl Try.underlying42 hi (tab_length _ _ _) hr2 ?_
        | refine wpList_store_tab 42 (.tmp 2) (.tmp 18) (w.heap.size + 1) 32 (tab 32 (fun i => thr m (m i) 32) 32) rfl rfl rfl rfl rfl hi (tab_length _ _ _) ht1 (tab_one _ _ _) ?_)
      (try simp only [Exit.inBlock, Exit.then])
      refine ret_tab (w.heap.size + 1) 32 (tab 32 (fun i => thr m (m i) 32) 32) rfl rfl Try.underlying42 hi (tab_length _ _ _) ?_ rfl ⟨rfl, below_setCells (by omega) _ _ hb⟩
      exact World.rangeAt_setCells_same _ _ _ _ (by rw [tab_length]; exact ht1)
end Go.Proofs.Ytpgcnchbboohoaa
