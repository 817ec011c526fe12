/-
  register: a text that may be (81), a map that may be a register (42).
-/
import Derived.Test.YtkeldhohilmdcaaGreatPIterF
import Derived.Test.YtkeldhohilmdcaaGreatOfKey
import Derived.Test.YtkeldhohilmdcaaGreatElR
import Derived.Scope
namespace Go.Proofs.YtkeldhohilmdcaaGreat
open Go.RowKit Go.Shelf
set_option linter.unusedSimpArgs false
attribute [local go_sem] Oper.semAt_some

abbrev Kv := ByteArray × ByteArray
/-- A stamp's key, a key's stamp. -/
def keyT (s : St) : ByteArray := keyS s.1 s.2.1 s.2.2.1 s.2.2.2.1 s.2.2.2.2
def ofT (k : ByteArray) : St := (kG k, kR k, kL k, kN k, kX k)
def stV (s : St) : Bool := stampV s.1 s.2.1 s.2.2.1 s.2.2.2.1 s.2.2.2.2
def txtB (t : ByteArray) : Bool := decide (t.size ≤ 256)
/-- A key and a value that may stand in a register. -/
def okKv (x : Kv) : Bool := okV x.1 && txtB x.2
def mayL (l : List Kv) : Bool := l.all okKv
theorem mayText_any (s : ByteArray) (w : World) : Calls Tryz.prog 108 #[.string s] w fun e w' => e = .returned (.bool (txtB s)) ∧ w' = w := by
  unfold txtB
  by_cases h : s.size ≤ 256
  · have h1 : (s.size : Int) ≤ 256 := by omega
    have h2 : decide ((s.size : Int) ≤ 256) = true := by simpa using h1
    have h3 : decide (s.size ≤ 256) = true := by simpa using h
    rw [h3]
    go_enter Tryz.func108, Tryz.ntmps108
    go_wp2
    go_ret
    exact ⟨rfl, rfl⟩
  · have h1 : ¬ (s.size : Int) ≤ 256 := by omega
    have h2 : decide ((s.size : Int) ≤ 256) = false := by simpa using h1
    have h3 : decide (s.size ≤ 256) = false := by simpa using h
    rw [h3]
    go_enter Tryz.func108, Tryz.ntmps108
    go_wp2
    go_ret
    exact ⟨rfl, rfl⟩
theorem ofKeyT_any (k : ByteArray) (w : World) (hk : k.size ≤ 9223372036854775807) : Calls Tryz.prog 112 #[.string k] w fun e w' => e = .returned (.tuple #[svT (ofT k), .int .i64 (if okV k then 0 else 4)]) ∧ Below w.heap.size w w' := ofKey_any k w hk
theorem leave_tmp {fn : Func} {tmps : Array Value} {p : Tmp} {v : Value} {R : Ending → World → Prop} {W : World} (h : fn.results = #[.tmp p]) (hp : tmps.getD p undef = v) (hR : R (.returned v) W) : LeavesInM Fence.wide 6 Tryz.prog fn tmps R [] .returning W := by
  refine leave_none (v := v) ?_ hR
  simp only [Array.getD_eq_getD_getElem?] at hp
  simp [results, h, hp]
theorem new3r (w : World) (o1 o2 o3 : Obj) : (((w.alloc o1).alloc o2).alloc o3).heap[w.heap.size]? = some o1 ∧ (((w.alloc o1).alloc o2).alloc o3).heap[w.heap.size + 1]? = some o2 ∧ (((w.alloc o1).alloc o2).alloc o3).heap[w.heap.size + 2]? = some o3 ∧ Below w.heap.size w (((w.alloc o1).alloc o2).alloc o3) := by
  obtain ⟨m0, m1⟩ := new2 w o1 o2
  have hc : Below ((w.alloc o1).alloc o2).heap.size ((w.alloc o1).alloc o2) (((w.alloc o1).alloc o2).alloc o3) := (Below.refl _ _).alloc (Nat.le_refl _) _
  have h2 := heap_alloc_new ((w.alloc o1).alloc o2) o3
  rw [show ((w.alloc o1).alloc o2).heap.size = w.heap.size + 2 from by simp] at h2
  exact ⟨(hc.block _ (Array.getElem?_eq_some_iff.1 m0).1).trans m0, (hc.block _ (Array.getElem?_eq_some_iff.1 m1).1).trans m1, h2, (((Below.refl _ w).alloc (Nat.le_refl _) _).alloc (by simp) _).alloc (by simp; omega) _⟩
theorem enters180 : Enters Tryz.prog 180 := enters_of Tryz.func180 (by kernel_rfl) rfl
/-- A range over a map's iterator, also left by a break. -/
theorem range_mb {α : Type} {a : Act} {w : World} {Q : Exit → Act → World → Prop} {g : Operand} {ps : Array Tmp} {assign body : Code} (id : Nat) (F : FuncId) (eg : Enters Tryz.prog F) (caps : Array Value) (xs : List α) (enc : α → Array Value) (K : Nat → Prop)
    (hit : Pm.Iter F caps xs enc K w) (hg : a.eval g = .func (.func F) #[] caps) (hps : ∀ x ∈ xs, (enc x).size = ps.size) (hK : ∀ j, K j → j < w.heap.size)
    (D : Nat → Prop) (hDK : ∀ j, D j → ¬ K j) (hDlt : ∀ j, D j → j < w.heap.size)
    (I : Nat → World → Prop) (Ix J : World → Prop) (hI : ∀ k W W', I k W → Only (fun j => j = w.heap.size + 1) W W' → I k W') (hIx : ∀ W W', Ix W → Only (fun j => j = w.heap.size + 1) W W' → Ix W') (h0 : I 0 w)
    (hround : ∀ c x W, xs[c]? = some x → I c W → Pm.Same K w W → w.heap.size + 4 ≤ W.heap.size →
      assign.wpIn (Fence.wide.inRound (w.heap.size + 1)) 4 Tryz.prog (Exit.then (fun a1 W1 => Only D W W1 ∧ ∀ W2, Only (fun j => j = w.heap.size + 1) W1 W2 → body.wpIn (Fence.wide.inRound (w.heap.size + 1)) 4 Tryz.prog (rpost D I (fun cd W => cd = .exit id ∧ Ix W) W2 (c + 1)) a1 W2) (fun _ _ _ => False))
        { tmps := (ps.zip (enc x)).foldl (fun t (p, v) => t.setIfInBounds p v) a.tmps, defers := [] } W)
    (hQ : ∀ a W, Q .normal a W → Q (.exit id) a W) (hJ1 : ∀ W, I xs.length W → J W) (hJ2 : ∀ W, Ix W → J W)
    (hdone : ∀ W, J W → w.heap.size < W.heap.size → W.heap[w.heap.size]? = some (.deferred (some [])) → Q .normal { a with defers := { target := .collected w.heap.size, args := #[] } :: a.defers } W) :
    (Code.rangeFunc g ps assign body).wp Tryz.prog Q a w := by
  refine Pm.range_it (Q := Q) F eg caps xs enc K hit hg hps hK D hDK (fun d => by have := hDlt _ d; omega) (fun d => by have := hDlt _ d; omega) (fun d => by have := hDlt _ d; omega) (fun d => by have := hDlt _ d; omega) I (fun cd W => cd = .exit id ∧ Ix W) hI (fun c W W' h k => ⟨h.1, hIx W W' h.2 k⟩) h0 hround ?_ ?_
  · intro W hi hs hk
    exact hdone W (hJ1 W hi) hs hk
  · rintro c W ⟨rfl, hi⟩ hs hk
    exact wp_exit (hQ _ _ (hdone W (hJ2 W hi) hs hk))
/-- The first k may stand. -/
def AllOk (l : List Kv) (k : Nat) : Prop := ∀ j x, j < k → l[j]? = some x → okKv x = true
/-- What stands between rounds: a bool of its own. -/
def BI (wA : World) (Mb : Nat) (b : Bool) (W : World) : Prop := Only (fun j => j = Mb) wA W ∧ W.heap[Mb]? = some (.cells #[.bool b] 4 (0, 0))
theorem BI.other {wA : World} {Nb : Nat} {b : Bool} {W W' : World} (h : BI wA Nb b W) (hN : Nb < wA.heap.size) (ho : Only (fun j => j = wA.heap.size + 1) W W') : BI wA Nb b W' :=
  ⟨h.1.trans ho (fun j hj e => by have e' : j = wA.heap.size + 1 := e; omega), (ho.block _ (Array.getElem?_eq_some_iff.1 h.2).1 (by omega)).trans h.2⟩

set_option maxHeartbeats 4000000 in
set_option maxRecDepth 100000 in
theorem rMay_any (t : Pm.T) (w : World) (ht : Pm.In w t) (hs : Pm.Srt t.list) (hk : ∀ x ∈ t.list, x.1.size ≤ 9223372036854775807) :
    Calls Tryz.prog 46 #[Pm.mv t] w fun e w' => e = .returned (.bool (mayL t.list)) ∧ Below w.heap.size w w' := by
  obtain ⟨l, hl⟩ : ∃ l, l = t.list := ⟨_, rfl⟩
  obtain ⟨a, ha⟩ := t.ptr_shape
  obtain ⟨w1, hw1⟩ : ∃ w1, w1 = (w.alloc (.cells #[.pointer a] 27)).alloc (.cells #[.bool true] 4) := ⟨_, rfl⟩
  obtain ⟨m0, m1⟩ := new2 w (.cells #[.pointer a] 27) (.cells #[.bool true] 4)
  rw [← hw1] at m0 m1
  have b1 : Below w.heap.size w w1 := by rw [hw1]; exact ((Below.refl _ w).alloc (Nat.le_refl _) _).alloc (by simp) _
  have hAll := Pm.mAll_any t w1
  obtain ⟨wA, hwA⟩ : ∃ wA, wA = ((w1.alloc (.cells #[t.ptr] 27)).alloc (.cells #[t.ptr] 27)).alloc (.cells #[.string ⟨#[]⟩] 9) := ⟨_, rfl⟩
  rw [← hwA] at hAll
  have sA : wA.heap.size = w1.heap.size + 3 := by rw [hwA]; simp
  have s1 : w1.heap.size = w.heap.size + 2 := by rw [hw1]; simp
  have bA : Below w1.heap.size w1 wA := by rw [hwA]; exact (new3r w1 _ _ _).2.2.2
  have cL : wA.cell? ⟨w1.heap.size + 2, 0, none⟩ = some (.string ⟨#[]⟩) := by rw [hwA]; exact (cell_of_row _ _ 0 _ 9 (0, 0) (new3r w1 _ _ _).2.2.1).trans rfl
  have cM : wA.cell? ⟨w1.heap.size + 1, 0, none⟩ = some t.ptr := by rw [hwA]; exact (cell_of_row _ _ 0 _ 27 (0, 0) (new3r w1 _ _ _).2.1).trans rfl
  have iA : Pm.In wA t := Pm.In.below (b1.trans (bA.mono b1.size)) ht
  have hit := Pm.iter_from t ⟨#[]⟩ (w1.heap.size + 2) (w1.heap.size + 1) wA iA cL cM
  rw [Pm.all_is hs, ← hl] at hit
  rw [← hl] at hk ⊢
  have hKlt : ∀ j, Pm.KF t (w1.heap.size + 2) (w1.heap.size + 1) j → j < wA.heap.size := fun j hj => by
    rcases hj with rfl | rfl | hj
    · omega
    · omega
    · exact iA.blk_lt hj
  have hKne : ∀ j, Pm.KF t (w1.heap.size + 2) (w1.heap.size + 1) j → j ≠ w.heap.size + 1 := fun j hj => by
    rcases hj with rfl | rfl | hj
    · omega
    · omega
    · have := ht.blk_lt hj; omega
  have c0 : w1.cell? ⟨w.heap.size, 0, none⟩ = some (.pointer a) := (cell_of_row _ _ 0 _ 27 (0, 0) m0).trans rfl
  have i0 : BI wA (w.heap.size + 1) true wA := ⟨Only.refl _ _, (bA.block _ (by omega)).trans m1⟩
  have HBW : Hid (Below w.heap.size w wA ∧ wA.heap.size = w.heap.size + 5) := hide ⟨b1.trans (bA.mono b1.size), by omega⟩
  unfold Pm.mv at hAll ⊢
  rw [ha] at hAll ⊢
  have HW1 := hide hw1
  obtain ⟨Mb, hMb⟩ : ∃ Mb, Mb = w.heap.size + 1 := ⟨_, rfl⟩
  have HM : Hid (Mb = w.heap.size + 1) := hide hMb
  rw [← hMb] at hKne i0
  have hfin : ∀ (b : Bool) (W : World) (fn : Func) (tmps : Array Value), fn.results = #[.tmp 2] → tmps.getD 2 undef = .bool b → W.heap[wA.heap.size]? = some (.deferred (some [])) → BI wA Mb b W → mayL l = b →
      LeavesInM Fence.wide 6 Tryz.prog fn tmps (fun e w' => e = .returned (.bool (mayL l)) ∧ Below w.heap.size w w') ({ target := .collected wA.heap.size, args := #[] } :: []) .returning W := fun b W fn tmps hres hp hKk hi hb => by
    have ho := only_putObj W wA.heap.size (.deferred none)
    have hB := Below.only HBW.out.1 hi.1 HBW.out.1.size (fun j e => by have := HM.out; omega)
    have := HBW.out.2
    exact leave_mark hKk (leave_tmp hres hp ⟨by rw [hb], Below.only hB ho hB.size (fun j e => by have e' : j = wA.heap.size := e; omega)⟩)
  have HFIN := hide hfin
  clear m0 m1 b1 hMb sA s1 bA cL cM iA hw1 hwA ht hs hl ha hfin
  refine calls_marks Tryz.func46 rfl ?_
  simp only [Tryz.ntmps46, List.size_toArray, List.length_cons, List.length_nil, Nat.reduceAdd, Nat.reduceSub, Array.replicate_succ, Array.replicate_zero, List.push_toArray, List.append_toArray, List.nil_append, List.cons_append]
  go_wp2
  refine wp_scope_straight ?_
  go_wp2
  refine wp_label ?_
  rw [← HW1.out]
  go_wp2_with (first | (refine wp_label ?_) | (go_at_call 111; refine hAll.mono ?_; rintro e w' ⟨rfl, hw'⟩; obtain rfl : wA = w' := hw'.symm; clear hw'; dsimp only))
  clear hAll c0
  refine range_mb (Q := _) 0 180 enters180 _ l (fun x => #[.string x.1, .string x.2]) _ hit rfl (fun _ _ => rfl) hKlt (fun j => j = Mb) (fun j e hj => hKne j hj e) (fun j e => by have := HM.out; have := HBW.out.2; omega)
    (fun k W => BI wA Mb true W ∧ AllOk l k) (fun W => BI wA Mb false W ∧ mayL l = false) (fun W => ∃ b, BI wA Mb b W ∧ mayL l = b)
    (fun k W W' hi ho => ⟨hi.1.other (by have := HM.out; have := HBW.out.2; omega) ho, hi.2⟩) (fun W W' hi ho => ⟨hi.1.other (by have := HM.out; have := HBW.out.2; omega) ho, hi.2⟩) ⟨i0, fun j x hj => by omega⟩ ?hround (fun _ _ h => h) (fun W h => ⟨true, h.1, ?hall⟩) (fun W h => ⟨false, h⟩) ?hdone
  case hall =>
    rw [mayL, List.all_eq_true]
    intro x hx
    obtain ⟨j, hj, rfl⟩ := List.getElem_of_mem hx
    exact h.2 j _ hj (List.getElem?_eq_getElem hj)
  case hdone =>
    rintro W ⟨b, hi, hb⟩ hlt hk'
    have c1 : W.cell? ⟨Mb, 0, none⟩ = some (.bool b) := (cell_of_row _ _ 0 _ 4 (0, 0) hi.2).trans rfl
    have HX := hide (And.intro hk' (And.intro hi hb))
    have hMb : w.heap.size + 1 = Mb := HM.out.symm
    clear hit hKlt hKne i0 hk hi hk' hb
    rw [hMb]
    clear hMb
    go_wp2
    refine noGoto_ret ?_
    exact HFIN.out b W Tryz.f46 _ rfl rfl HX.out.1 HX.out.2.1 HX.out.2.2
  case hround =>
    rintro c ⟨k, x⟩ W hx ⟨hi, hall⟩ hSame hsz
    have hks := hk _ (List.mem_of_getElem? hx)
    have HX := hide (And.intro hx hall)
    clear hit hKlt hKne i0 hk hSame hx hall HFIN
    have hMb : w.heap.size + 1 = Mb := HM.out.symm
    have HSZ : Hid (Mb < wA.heap.size ∧ w.heap.size ≤ Mb) := hide (by have := HM.out; have := HBW.out.2; omega)
    rw [hMb]
    clear hMb
    dsimp only
    gi_wp2
    refine ⟨Only.refl _ _, fun W2 ho2 => ?_⟩
    have hi2 := hi.other HSZ.out.1 ho2
    have h85 := ofKeyT_any k W2 hks
    have h81 := fun W => mayText_any x W
    obtain ⟨s, hs⟩ : ∃ s, s = ofT k := ⟨_, rfl⟩
    rw [← hs] at h85
    clear hs hi ho2 hsz hks
    obtain ⟨g, r, lb, n, ix⟩ := s
    dsimp only [svT] at h85
    have fin : ∀ W3, Below W2.heap.size W2 W3 → Only (fun j => j = Mb) W2 W3 ∧ BI wA Mb true W3 := fun W3 h3 => ⟨below_only h3, hi2.1.next (below_only h3), (h3.block _ (Array.getElem?_eq_some_iff.1 hi2.2).1).trans hi2.2⟩
    have bad : ∀ W3, Below W2.heap.size W2 W3 → W3.cell? ⟨Mb, 0, none⟩ = some (.bool true) ∧ W3.frozen? ⟨Mb, 0, none⟩ = false ∧ Hid (Only (fun j => j = Mb) W2 (W3.setCell ⟨Mb, 0, none⟩ (.bool false)) ∧ BI wA Mb false (W3.setCell ⟨Mb, 0, none⟩ (.bool false))) := fun W3 h3 => by
      obtain ⟨o3, b3⟩ := fin W3 h3
      obtain ⟨s4, o4⟩ := set_one (i := 0) (.bool false) b3.2
      exact ⟨(cell_of_row _ _ 0 _ 4 (0, 0) b3.2).trans rfl, frozen_of_row _ _ 0 _ 4 b3.2, hide ⟨o3.next o4, b3.1.next o4, by simpa using s4⟩⟩
    have HF := hide (And.intro fin bad)
    clear fin bad hi2
    have up : ∀ w3, Below W2.heap.size W2 w3 → Below W2.heap.size W2 (w3.alloc (.cells #[.int .i64 g, .int .i64 r, .string lb, .int .i64 n, .int .i64 ix] 43)) := fun w3 b3 => b3.trans (((Below.refl _ w3).alloc (Nat.le_refl _) _).mono b3.size)
    have HUP := hide up
    clear up
    have neverL : okKv (k, x) = false → mayL l = false := fun hn => by
      rw [Bool.eq_false_iff]
      intro hm
      rw [mayL, List.all_eq_true] at hm
      rw [hm _ (List.mem_of_getElem? HX.out.1)] at hn
      cases hn
    have HN := hide neverL
    clear neverL
    by_cases hv : okV k = true
    · rw [if_pos hv] at h85
      have HV := hide hv
      clear hv
      by_cases ht : txtB x = true
      · rw [ht] at h81
        have HT := hide ht
        clear ht
        gi_wp2_with (first
          | (refine ⟨trivial, CallsIn.inRound _ (callsIn_wide.2 (Calls.mono h85 ?_))⟩; rintro e w3 ⟨rfl, b3⟩; have HB := hide (HUP.out w3 b3); clear b3; dsimp only)
          | (refine ⟨trivial, CallsIn.inRound _ (callsIn_wide.2 (Calls.mono (h81 _) ?_))⟩; rintro e w4 ⟨rfl, hw4⟩; replace hw4 := hw4.symm; subst hw4; dsimp only))
        refine ⟨(HF.out.1 _ HB.out).1, (HF.out.1 _ HB.out).2, fun j y hj hy => ?_⟩
        by_cases hjc : j = c
        · subst hjc
          rw [HX.out.1] at hy
          cases hy
          simp [okKv, HV.out, HT.out]
        · exact HX.out.2 j y (by omega) hy
      · have ht' : txtB x = false := by simpa using ht
        rw [ht'] at h81
        have HT := hide ht'
        clear ht ht'
        gi_wp2_with (first
          | (refine ⟨trivial, CallsIn.inRound _ (callsIn_wide.2 (Calls.mono h85 ?_))⟩; rintro e w3 ⟨rfl, b3⟩; obtain ⟨cx, fx, HB⟩ := HF.out.2 _ (HUP.out w3 b3); clear b3; dsimp only)
          | (refine ⟨trivial, CallsIn.inRound _ (callsIn_wide.2 (Calls.mono (h81 _) ?_))⟩; rintro e w4 ⟨rfl, hw4⟩; replace hw4 := hw4.symm; subst hw4; dsimp only))
        exact ⟨HB.out.1, rfl, HB.out.2, HN.out (by simp [okKv, HT.out])⟩
    · rw [if_neg hv] at h85
      have HV := hide hv
      clear hv h81
      gi_wp2_with (first
          | (refine ⟨trivial, CallsIn.inRound _ (callsIn_wide.2 (Calls.mono h85 ?_))⟩; rintro e w3 ⟨rfl, b3⟩; obtain ⟨cx, fx, HB⟩ := HF.out.2 _ (HUP.out w3 b3); clear b3; dsimp only))
      exact ⟨HB.out.1, rfl, HB.out.2, HN.out (by simp [okKv, Bool.eq_false_iff.2 HV.out])⟩
end Go.Proofs.YtkeldhohilmdcaaGreat
