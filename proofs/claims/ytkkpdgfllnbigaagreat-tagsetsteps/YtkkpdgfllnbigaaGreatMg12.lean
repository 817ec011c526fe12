/-
  Where a tree's nodes lie.
  DERIVED: THE SHELF's CONTRACTS AT THIS DUMP, IN PLAIN WORDS (tools/lay-plain.mjs out of 'TryLayS.lean', which tools/lay-shelf.mjs wrote): THE SAME DECLARATIONS UNDER THE SAME NAMES: 'import', 'namespace', 'open', 'def', 'theorem' AND NOTHING ELSE: no command of the shelf's: FOR A HAND-IN. Each laying: the table of numbers ('.._ren') and one theorem, a field a fact of the dump's own or the kernel's comparison; each contract: ONE APPLICATION.
  SORTED PLACES: slices.SortFunc at []int, with the closure of rising.
  SLICES THAT TELL VALUES OF ONE CELL.
  rising: THE PLACES OF KEYS, BY THE KEYS' ORDER.
-/
import Derived.Test.YtkkpdgfllnbigaaGreatMg1
import Derived.Shelf.SlSortCmp.NoneTotal
import Derived.Shelf.SlSortCmp.Whole1
import Derived.Ground.SlsfProg
import Derived.Test.YtkkpdgfllnbigaaGreatProg
import Derived.Test.YtkkpdgfllnbigaaGreatMg10
namespace Go.Proofs.YtkkpdgfllnbigaaGreat.Pm
/-- A tree has a node at a block. -/
def T.atB (q : Nat) : T → Prop
  | .nil => False
  | .node p _ _ l r => p = q ∨ l.atB q ∨ r.atB q
/-- All nodes lie from a block on. -/
def T.over (B : Nat) (t : T) : Prop := ∀ q, t.atB q → B ≤ q
theorem T.over.mono {B B' : Nat} {t : T} (h : t.over B') (hB : B ≤ B') : t.over B := fun q hq => Nat.le_trans hB (h q hq)
theorem T.over_nil {B : Nat} : T.over B .nil := fun _ h => h.elim
theorem T.over_node {B p k v l r} (hp : B ≤ p) (hl : T.over B l) (hr : T.over B r) : T.over B (.node p k v l r) := fun q h => by
  rcases h with rfl | h | h
  · exact hp
  · exact hl q h
  · exact hr q h
end Go.Proofs.YtkkpdgfllnbigaaGreat.Pm
namespace Go.Proofs
open Go.Shelf
def Tryz.sortInts_ren : Go.Shelf.Ren := ⟨fun | 6 => 204 | 15 => 179 | 14 => 235 | 28 => 220 | 29 => 221 | 20 => 251 | 21 => 252 | 22 => 253 | 23 => 254 | 24 => 255 | 25 => 256 | 26 => 257 | 27 => 258 | 46 => 268 | 47 => 241 | 48 => 242 | 49 => 269 | 50 => 270 | 57 => 271 | n => n, fun | 22 => 156 | 24 => 3 | 25 => 188 | 3 => 3 | 39 => 174 | 0 => 0 | 53 => 205 | 55 => 207 | 4 => 4 | 46 => 198 | 45 => 197 | 50 => 202 | 5 => 5 | 9 => 9 | 66 => 223 | 70 => 227 | 76 => 240 | 77 => 241 | n => n, fun | n => n⟩
theorem Tryz.sortInts : Go.Proofs.SlLaysF.n6 Tryz.prog Tryz.sortInts_ren := {
  mixed := by kernel_rfl
  f6 := ⟨Tryz.f204.name, by decide, Tryz.func204.trans (congrArg some (by kernel_rfl))⟩
  f14 := ⟨Tryz.f235.name, by decide, Tryz.func235.trans (congrArg some (by kernel_rfl))⟩
  f15 := Tryz.func179.trans (congrArg some (by kernel_rfl))
  f20 := ⟨Tryz.f251.name, by decide, Tryz.func251.trans (congrArg some (by kernel_rfl))⟩
  f21 := ⟨Tryz.f252.name, by decide, Tryz.func252.trans (congrArg some (by kernel_rfl))⟩
  f22 := ⟨Tryz.f253.name, by decide, Tryz.func253.trans (congrArg some (by kernel_rfl))⟩
  f23 := ⟨Tryz.f254.name, by decide, Tryz.func254.trans (congrArg some (by kernel_rfl))⟩
  f24 := ⟨Tryz.f255.name, by decide, Tryz.func255.trans (congrArg some (by kernel_rfl))⟩
  f25 := ⟨Tryz.f256.name, by decide, Tryz.func256.trans (congrArg some (by kernel_rfl))⟩
  f26 := ⟨Tryz.f257.name, by decide, Tryz.func257.trans (congrArg some (by kernel_rfl))⟩
  f27 := ⟨Tryz.f258.name, by decide, Tryz.func258.trans (congrArg some (by kernel_rfl))⟩
  f28 := Tryz.func220.trans (congrArg some (by kernel_rfl))
  f29 := Tryz.func221.trans (congrArg some (by kernel_rfl))
  f46 := ⟨Tryz.f268.name, by decide, Tryz.func268.trans (congrArg some (by kernel_rfl))⟩
  f47 := Tryz.func241.trans (congrArg some (by kernel_rfl))
  f48 := Tryz.func242.trans (congrArg some (by kernel_rfl))
  f49 := ⟨Tryz.f269.name, by decide, Tryz.func269.trans (congrArg some (by kernel_rfl))⟩
  f50 := ⟨Tryz.f270.name, by decide, Tryz.func270.trans (congrArg some (by kernel_rfl))⟩
  f57 := ⟨Tryz.f271.name, by decide, Tryz.func271.trans (congrArg some (by kernel_rfl))⟩
  t0 := Tryz.underlying0
  a0 := Tryz.isAgg0
  z0 := Tryz.sizeOf0
  v0 := Tryz.zeroValue0
  t3 := Tryz.underlying3
  a3 := Tryz.isAgg3
  z3 := Tryz.sizeOf3
  v3 := Tryz.zeroValue3
  t4 := Tryz.underlying4
  a4 := Tryz.isAgg4
  z4 := Tryz.sizeOf4
  v4 := Tryz.zeroValue4
  t5 := Tryz.underlying5
  a5 := Tryz.isAgg5
  z5 := Tryz.sizeOf5
  v5 := Tryz.zeroValue5
  t9 := Tryz.underlying9
  a9 := Tryz.isAgg9
  z9 := Tryz.sizeOf9
  v9 := Tryz.zeroValue9
  t22 := Tryz.underlying156
  a22 := Tryz.isAgg156
  z22 := Tryz.sizeOf156
  v22 := Tryz.zeroValue156
  a24 := Tryz.isAgg3
  z24 := Tryz.sizeOf3
  t25 := Tryz.underlying188
  a25 := Tryz.isAgg188
  z25 := Tryz.sizeOf188
  v25 := Tryz.zeroValue188
  t39 := Tryz.underlying174
  a39 := Tryz.isAgg174
  z39 := Tryz.sizeOf174
  v39 := Tryz.zeroValue174
  t45 := Tryz.underlying197
  a45 := Tryz.isAgg197
  z45 := Tryz.sizeOf197
  v45 := Tryz.zeroValue197
  t46 := Tryz.underlying198
  a46 := Tryz.isAgg198
  z46 := Tryz.sizeOf198
  v46 := Tryz.zeroValue198
  t50 := Tryz.underlying202
  a50 := Tryz.isAgg202
  z50 := Tryz.sizeOf202
  v50 := Tryz.zeroValue202
  t53 := Tryz.underlying205
  a53 := Tryz.isAgg205
  z53 := Tryz.sizeOf205
  v53 := Tryz.zeroValue205
  t55 := Tryz.underlying207
  a55 := Tryz.isAgg207
  z55 := Tryz.sizeOf207
  v55 := Tryz.zeroValue207
  t66 := Tryz.underlying223
  a66 := Tryz.isAgg223
  z66 := Tryz.sizeOf223
  v66 := Tryz.zeroValue223
  t70 := Tryz.underlying227
  a70 := Tryz.isAgg227
  z70 := Tryz.sizeOf227
  v70 := Tryz.zeroValue227
  t76 := Tryz.underlying240
  a76 := Tryz.isAgg240
  z76 := Tryz.sizeOf240
  v76 := Tryz.zeroValue240
  t77 := Tryz.underlying241
  a77 := Tryz.isAgg241
  z77 := Tryz.sizeOf241
  v77 := Tryz.zeroValue241 }
end Go.Proofs
namespace Go.Proofs.YtkkpdgfllnbigaaGreat.Pm
open Go.RowKit Go.Shelf
set_option linter.unusedSimpArgs false

set_option maxHeartbeats 2000000 in
theorem closure64 (x y N B b off cap : Nat) (kx ky : ByteArray) (W : World) (hbox : W.cell? ⟨B, 0, none⟩ = some (.slice (some ⟨b, off, none⟩) N cap)) (h1 : W.cell? ⟨b, off + x, none⟩ = some (.string kx)) (h2 : W.cell? ⟨b, off + y, none⟩ = some (.string ky)) (hx : x < N) (hy : y < N) :
    Calls Tryz.prog 205 #[.int .i64 x, .int .i64 y, .pointer (some ⟨B, 0, none⟩)] W fun e w' => e = .returned (.int .i64 (cmpB kx ky)) ∧ ∃ q, w' = W.drewN q := by
  have hc := fun W => compare_B kx ky W
  generalize cmpB kx ky = C at *
  have z1 : (x : Int) < (N : Int) := by omega
  have z2 : (y : Int) < (N : Int) := by omega
  go_enter Tryz.func205, Tryz.ntmps205
  go_wp2
  go_quiet (first | (go_at_call 128; refine Calls.quiet_of_same (hc _)))
  go_wp2
  go_ret
  exact ⟨rfl, _, rfl⟩

def encP {M : Nat} (x : Fin (M + 1)) : Value := .int .i64 (x.val : Nat)
theorem lt_B {M : Nat} (ks : Fin (M + 1) → ByteArray) (x y : Fin (M + 1)) : ltOf (fun x y => cmpB (ks x) (ks y)) x y = true ↔ cmpB (ks x) (ks y) = -1 := by
  have := ord_B.range (ks x) (ks y)
  unfold ltOf
  simp
  omega
theorem lt_Bn {M : Nat} (ks : Fin (M + 1) → ByteArray) (x y : Fin (M + 1)) : ltOf (fun x y => cmpB (ks x) (ks y)) x y = false ↔ cmpB (ks x) (ks y) ≠ -1 := by
  rw [Ne, ← lt_B]; simp
theorem swo_B {M : Nat} (ks : Fin (M + 1) → ByteArray) : Sort.SWO (ltOf (fun x y => cmpB (ks x) (ks y))) := ⟨fun x => by rw [lt_Bn, ord_B.refl]; decide, fun x y z h1 h2 => by rw [lt_B] at *; exact ord_B.trans _ _ _ h1 h2, fun x y z h1 h2 => by
    rw [lt_Bn] at *
    intro h3
    rcases ord_B.range (ks x) (ks y) with h | h | h
    · exact h1 h
    · rw [ord_B.eq _ _ h] at h3; exact h2 h3
    · have : cmpB (ks y) (ks x) = -1 := by rw [ord_B.anti, h]
      exact h2 (ord_B.trans _ _ _ this h3)⟩
theorem only_sorted {M : Nat} (W : World) (G n : Nat) (d : Array (Fin (M + 1))) (os : Array Obj) : Only (fun j => j = G) W (sortWorld encP W G 0 n d os) := by
  have hheap : (sortWorld encP W G 0 n d os).heap = W.heap.modify G (Sort.onCells (Sort.putCells encP 0 d)) ++ os := rfl
  refine ⟨rfl, rfl, rfl, ?_, fun k hk hG => ?_⟩
  · rw [hheap]; simp
  · rw [hheap, Array.getElem?_append_left (by simpa using hk), Array.getElem?_modify, if_neg (fun e => hG e.symm)]

theorem sort63 (M : Nat) (ks : Fin (M + 1) → ByteArray) (B G b off cap kcap : Nat) (d : Array (Fin (M + 1))) (hd : d.size = M + 1) (W : World) (hbox : W.cell? ⟨B, 0, none⟩ = some (.slice (some ⟨b, off, none⟩) (M + 1) kcap)) (hk : ∀ x : Fin (M + 1), W.cell? ⟨b, off + x.val, none⟩ = some (.string (ks x))) (hBG : B ≠ G) (hbG : b ≠ G) (hH : Sort.Holds encP W G 0 d) (hM : M < 1000000) :
    Calls Tryz.prog 204 #[.slice (some ⟨G, 0, none⟩) (M + 1) cap, .func (.func 205) #[] #[.pointer (some ⟨B, 0, none⟩)]] W fun e w' => e = .returned (.tuple #[]) ∧ ∃ d' : Array (Fin (M + 1)), d'.size = M + 1 ∧ d'.toList.Perm d.toList ∧ (∀ i j, i < j → j < M + 1 → cmpB (ks d'[j]!) (ks d'[i]!) ≠ -1) ∧ Sort.Holds encP w' G 0 d' ∧ Only (fun j => j = G) W w' := by
  have eg : ∀ args w, (callFunc 205 args).run Tryz.prog w = .ok (.enter 205 args) w := enters_of Tryz.func205 (by kernel_rfl) rfl
  have hblk : G < W.heap.size := by
    have := (hH 0 (by omega)).1
    exact World.block_lt_of_cell? W _ this
  have hc : CmpLays1 Tryz.prog 205 #[.pointer (some ⟨B, 0, none⟩)] encP (fun x y => cmpB (ks x) (ks y)) G 0 d.size W := fun m os dk hdk x y => by
    have ho := only_sorted W G m dk os
    refine (closure64 x.val y.val (M + 1) B b off kcap (ks x) (ks y) (sortWorld encP W G 0 m dk os) (ho.cell hbox hBG) (ho.cell (hk x) hbG) (ho.cell (hk y) hbG) x.isLt y.isLt).mono ?_
    rintro e w' ⟨he, q, hw⟩
    exact ⟨he, q, #[], by rw [hw, Sort.grow_empty]⟩
  have hs := Any.slices_SortFunc Tryz.sortInts encP (fun _ => rfl) (fun x y => cmpB (ks x) (ks y)) (swo_B ks) 205 #[.pointer (some ⟨B, 0, none⟩)] G 0 cap d W eg hc hH hblk (by omega)
  change Calls Tryz.prog 204 _ _ _ at hs
  rw [hd] at hs
  refine hs.mono ?_
  rintro e w' ⟨he, d', n, os, hp, hso, rfl⟩
  have hsz : d'.size = M + 1 := hp.1.trans hd
  refine ⟨he, d', hsz, ?_, ?_, holds_sortWorld encP W G 0 n d d' os hblk hH hp.1, only_sorted W G n d' os⟩
  · have := hp.2.2
    have ex : ∀ (a : Array (Fin (M + 1))) n, a.size = n → a.extract 0 n = a := by intro a n h; subst h; simp
    rw [ex d' _ hsz, ex d _ hd] at this
    exact this
  · intro i j hij hj
    have := hso i j (Nat.zero_le _) hij hj
    rw [lt_Bn] at this
    exact this
end Go.Proofs.YtkkpdgfllnbigaaGreat.Pm
namespace Go.Proofs.YtkkpdgfllnbigaaGreat.Pm
open Go.RowKit Go.Shelf
set_option linter.unusedSimpArgs false

/-- A slice that tells values of one cell. -/
structure Cs (w : World) (v : Value) (l : List Value) : Prop where
  ex : ∃ ao cap, v = .slice ao l.length cap ∧ l.length ≤ cap ∧ ∀ j u, l[j]? = some u → ∃ b off, ao = some ⟨b, off, none⟩ ∧ w.cell? ⟨b, off + j, none⟩ = some u
theorem Cs.below {w w' : World} {v : Value} {l : List Value} (h : Cs w v l) (hb : Below w.heap.size w w') : Cs w' v l := by
  obtain ⟨ao, cap, e, hc, hr⟩ := h.ex
  exact ⟨ao, cap, e, hc, fun j u hj => by obtain ⟨b, off, e2, h2⟩ := hr j u hj; exact ⟨b, off, e2, cell_stays h2 hb⟩⟩
end Go.Proofs.YtkkpdgfllnbigaaGreat.Pm
namespace Go.Proofs.YtkkpdgfllnbigaaGreat.Pm
open Go.RowKit Go.Shelf
set_option linter.unusedSimpArgs false

def pl (N i : Nat) : List Value := (List.range N).map fun j => .int .i64 (if j < i then ((j : Nat) : Int) else 0)
theorem pl_get {N i j : Nat} (h : j < N) : (pl N i)[j]? = some (.int .i64 (if j < i then ((j : Nat) : Int) else 0)) := by simp [pl, h]
theorem pl_len (N i : Nat) : (pl N i).length = N := by simp [pl]
theorem pl_set {N i : Nat} (h : i < N) : (pl N i).set i (.int .i64 ((i : Nat) : Int)) = pl N (i + 1) := by
  apply List.ext_getElem?
  intro j
  rw [List.getElem?_set]
  by_cases e : i = j
  · subst e; simp [pl, h]
  · rw [if_neg e]
    by_cases hj : j < N
    · rw [pl_get hj, pl_get hj]
      by_cases h1 : j < i
      · rw [if_pos h1, if_pos (by omega)]
      · rw [if_neg h1, if_neg (by omega)]
    · rw [List.getElem?_eq_none (by rw [pl_len]; omega), List.getElem?_eq_none (by rw [pl_len]; omega)]
theorem pl_zero (N : Nat) : (madeCells (Value.int .i64 0).cells (N * 1)).toList = pl N 0 := by
  show (madeCells #[Value.int .i64 0] (N * 1)).toList = _
  rw [toList_madeCells_one, Nat.mul_one]
  apply List.ext_getElem?
  intro j
  by_cases hj : j < N
  · rw [pl_get hj]; simp [hj]
  · rw [List.getElem?_eq_none (by simp; omega), List.getElem?_eq_none (by rw [pl_len]; omega)]
theorem _root_.Go.Proofs.Tryz.info3 : (Tryz.prog.info? 3).map (fun i => (i.zero, i.size, i.bytes)) = some (some (.int .i64 0), 1, 8) := by kernel_rfl

theorem ofFn_range (n : Nat) : (Array.ofFn (fun x : Fin n => x)).toList.map Fin.val = List.range n := by
  rw [Array.toList_ofFn]
  apply List.ext_getElem
  · simp
  · intro j h1 h2
    simp
/-- What rising hands back: the places in the keys' order. -/
structure Rises (ks : List ByteArray) (p : List Nat) : Prop where
  perm : p.Perm (List.range ks.length)
  up : ∀ (i j x y : Nat) (kx ky : ByteArray), i < j → p[i]? = some x → p[j]? = some y → ks[x]? = some kx → ks[y]? = some ky → cmpB ky kx ≠ -1

set_option maxHeartbeats 4000000 in
set_option maxRecDepth 100000 in
theorem rising_any (ks : List ByteArray) (v : Value) (w : World) (h : Cs w v (ks.map .string)) (hl : ks.length ≤ 100000) : Calls Tryz.prog 166 #[v] w fun e w' => ∃ g cap p, e = .returned (.slice (some ⟨g, 0, none⟩) ks.length cap) ∧ ks.length ≤ cap ∧ Rises ks p ∧ (∀ j x, p[j]? = some x → w'.cell? ⟨g, j, none⟩ = some (.int .i64 (x : Nat))) ∧ Below w.heap.size w w' := by
  obtain ⟨ao, kcap, rfl, hkc, hr⟩ := h.ex
  rw [List.length_map] at *
  have hb0 : Below w.heap.size w (w.alloc (.cells #[.slice ao ks.length kcap] 63)) := (Below.refl _ w).alloc (Nat.le_refl _) _
  have hbox : (w.alloc (.cells #[.slice ao ks.length kcap] 63)).cell? ⟨w.heap.size, 0, none⟩ = some (.slice ao ks.length kcap) := cell_new w _ 63
  obtain ⟨N, hN⟩ : ∃ N, N = ks.length := ⟨_, rfl⟩
  rw [← hN] at hbox hb0 hl hkc ⊢
  obtain ⟨w1, hw1⟩ : ∃ w1, w1 = w.alloc (.cells #[.slice ao N kcap] 63) := ⟨_, rfl⟩
  have hs1 : w1.heap.size = w.heap.size + 1 := by rw [hw1]; simp
  obtain ⟨i3, hi1, hi2, hi3, hi4⟩ := info_parts Tryz.info3
  obtain ⟨w2, hrun, hown, hgr⟩ := run_make_full (P := Tryz.prog) w1 w1.heap.size 156 3 i3 (.int .i64 0) 1 Tryz.underlying156 hi1 hi2 hi3 .i64 .i64 N (by rw [hi4]; omega) (by unfold maxLen; omega) (Nat.le_refl _)
  rw [pl_zero] at hown
  rw [← hw1] at hb0 hbox
  have hb2 : Below w1.heap.size w1 w2 := (Below.refl _ w1).grown hgr (Nat.le_refl _) (fun j hj => by cases hj)
  rw [hs1] at hown hrun
  have HW := hide hw1
  have HS := hide hs1
  have HH := hide (And.intro hb0 (And.intro hbox (And.intro hown (And.intro hb2 (And.intro hr hN)))))
  rw [hw1] at hrun
  clear h hr hb0 hbox hown hb2 hgr hi1 hi2 hi3 hi4 hs1 hw1 hN
  go_enter Tryz.func166, Tryz.ntmps166
  go_wp2
  go_loopw [10] (fun v10 wr => ∃ i : Nat, i ≤ N ∧ v10 = .int .i64 i ∧ Hid (wr.ownsRow (w.heap.size + 1) 3 1 (.slice (some ⟨w.heap.size + 1, 0, none⟩) N N) N (pl N i) ∧ Below w1.heap.size w1 wr)) (fun v10 _ => N - (intOf v10).toNat)
  case atStart => exact ⟨0, by omega, rfl, hide ⟨HH.out.2.2.1, HH.out.2.2.2.1⟩⟩
  case round =>
    obtain ⟨i, hi, rfl, HI⟩ := hrel
    by_cases hiN : i < N
    · have z1 : (i : Int) < (N : Int) := by omega
      have hc := HI.out.1.cellAt i (by omega)
      rw [pl_get hiN] at hc
      have hf := HI.out.1.frozenAt i
      have hst := HI.out.1.stored i (.int .i64 ((i : Nat) : Int))
      rw [pl_set hiN] at hst
      have HST := hide hst
      clear hst
      generalize (if i < i then ((i : Nat) : Int) else 0) = z at hc
      go_wp2
      go_roundw
      case rel => exact ⟨i + 1, by omega, by go_num, hide ⟨HST.out.1, HI.out.2.grown HST.out.2 HI.out.2.size (fun j hj => by cases hj; rw [HS.out]; exact Nat.le_refl _)⟩⟩
      case measure => simp [intOf]; omega
    · have hN : i = N := by omega
      subst hN
      have z2 : decide ((i : Int) < (i : Int)) = false := by simp
      clear hi hiN
      have hown := HI.out.1
      have hbw := HI.out.2
      have hbx := cell_stays HH.out.2.1 hbw
      cases i with
      | zero =>
        have hs : ∀ W fv, Calls Tryz.prog 204 #[.slice (some ⟨w.heap.size + 1, 0, none⟩) 0 0, fv] W fun e w' => e = .returned (.tuple #[]) ∧ w' = W := fun W fv => AnyF.slices_SortFunc_none (P := Tryz.prog) (ρ := Tryz.sortInts_ren) { Tryz.sortInts with } _ _ _ _
        clear hown hbx z2
        have HB := hide hbw
        clear hbw
        go_wp2_with (go_at_call 204; refine (hs _ _).mono ?_; rintro e w' ⟨rfl, hw⟩; replace hw := hw.symm; subst hw)
        go_ret
        exact ⟨_, _, [], rfl, Nat.le_refl _, ⟨by rw [← HH.out.2.2.2.2.2]; exact List.Perm.refl _, by simp⟩, by simp, HH.out.1.trans (HB.out.mono HH.out.1.size)⟩
      | succ M =>
        have hlen := HH.out.2.2.2.2.2
        have hr := HH.out.2.2.2.2.1
        have hkx : ∀ x : Fin (M + 1), ∃ y, ks[x.val]? = some y := fun x => ⟨ks[x.val]'(by rw [← hlen]; exact x.isLt), List.getElem?_eq_getElem _⟩
        obtain ⟨kf, hkf⟩ : ∃ kf : Fin (M + 1) → ByteArray, ∀ x, ks[x.val]? = some (kf x) := ⟨fun x => ks[x.val]'(by rw [← hlen]; exact x.isLt), fun x => List.getElem?_eq_getElem _⟩
        obtain ⟨b, off, hao, hzz⟩ := hr 0 (.string (kf ⟨0, by omega⟩)) (by rw [List.getElem?_map, hkf ⟨0, by omega⟩]; rfl)
        have hk : ∀ x : Fin (M + 1), w.cell? ⟨b, off + x.val, none⟩ = some (.string (kf x)) := fun x => by
          obtain ⟨b', off', h1, h2⟩ := hr x.val (.string (kf x)) (by rw [List.getElem?_map, hkf x]; rfl)
          rw [hao] at h1
          simp only [Option.some.injEq, Addr.mk.injEq] at h1
          obtain ⟨rfl, rfl, _⟩ := h1
          exact h2
        have hbw0 := HH.out.1.trans (hbw.mono HH.out.1.size)
        have hblt : b < w.heap.size := World.block_lt_of_cell? w _ (hk ⟨0, by omega⟩)
        have hH : Sort.Holds encP wr (w.heap.size + 1) 0 (Array.ofFn (fun x : Fin (M + 1) => x)) := fun j hj => by
          have hj' : j < M + 1 := by simpa using hj
          refine ⟨?_, hown.frozenAt _⟩
          rw [Nat.zero_add, hown.cellAt j (by omega), pl_get hj', getElem!_pos _ j hj]
          simp [encP, hj']
        have hs := sort63 M kf w.heap.size (w.heap.size + 1) b off (M + 1) kcap (Array.ofFn (fun x : Fin (M + 1) => x)) (by simp) wr (by rw [← hao]; exact hbx) (fun x => cell_stays (hk x) hbw0) (by omega) (by omega) hH (by omega)
        have HB := hide hbw0
        have HK := hide hkf
        have HL := hide hlen
        clear hzz
        clear hown hbx hk hH hr hkx hkf hlen hbw hbw0 hblt hao z2
        go_wp2_with (go_at_call 204; refine hs.mono ?_; rintro e w' ⟨rfl, d', hsz, hp, hup, hhd, ho⟩)
        go_ret
        refine ⟨_, _, d'.toList.map Fin.val, rfl, Nat.le_refl _, ⟨?_, ?_⟩, ?_, HB.out.trans (ho.below HB.out.size (fun k e => by rw [e]; omega))⟩
        · rw [← HL.out]
          refine (hp.map Fin.val).trans ?_
          rw [ofFn_range]
        · intro i j x y kx ky hij hx hy hkx hky
          rw [List.getElem?_map] at hx hy
          obtain ⟨fx, hfx, rfl⟩ := Option.map_eq_some_iff.1 hx
          obtain ⟨fy, hfy, rfl⟩ := Option.map_eq_some_iff.1 hy
          have hjl := (List.getElem?_eq_some_iff.1 hfy).1
          rw [Array.length_toList, hsz] at hjl
          have := hup i j hij hjl
          rw [Array.getElem?_toList] at hfx hfy
          rw [Array.getElem!_eq_getD, Array.getElem!_eq_getD, Array.getD_eq_getD_getElem?, Array.getD_eq_getD_getElem?, hfx, hfy] at this
          rw [HK.out fx] at hkx
          rw [HK.out fy] at hky
          cases hkx
          cases hky
          exact this
        · intro j x hx
          rw [List.getElem?_map] at hx
          obtain ⟨fx, hfx, rfl⟩ := Option.map_eq_some_iff.1 hx
          have hjl := (List.getElem?_eq_some_iff.1 hfx).1
          rw [Array.length_toList] at hjl
          have := (hhd j hjl).1
          rw [Array.getElem?_toList] at hfx
          rw [Nat.zero_add, Array.getElem!_eq_getD, Array.getD_eq_getD_getElem?, hfx] at this
          exact this
end Go.Proofs.YtkkpdgfllnbigaaGreat.Pm
