/-
  DERIVED: THE SHELF's CONTRACTS AT THIS DUMP, IN PLAIN WORDS (tools/lay-plain.mjs out of 'TryLayS.lean', which tools/lay-shelf.mjs wrote): THE SAME DECLARATIONS UNDER THE SAME NAMES: 'import', 'namespace', 'open', 'def', 'theorem' AND NOTHING ELSE: no command of the shelf's: FOR A HAND-IN. Each laying: the table of numbers ('.._ren') and one theorem, a field a fact of the dump's own or the kernel's comparison; each contract: ONE APPLICATION.
  SORTED PLACES: slices.SortFunc at []int, with the closure of rising.
  SLICES THAT TELL VALUES OF ONE CELL.
  rising: THE PLACES OF KEYS, BY THE KEYS' ORDER.
  half: THE CLOSURE OF Of: a tree out of places, halves by halves.
-/
import Derived.Shelf.SlSortCmp.NoneTotal
import Derived.Shelf.SlSortCmp.Whole1
import Derived.Ground.SlsfProg
import Derived.Test.YtkkpdgfllnbigaaGreatDoorProg
import Derived.Test.YtkkpdgfllnbigaaGreatDoorMg9
import Derived.Test.YtkkpdgfllnbigaaGreatDoorMg10
namespace Go.Proofs
open Go.Shelf
def Tryz.sortInts_ren : Go.Shelf.Ren := ⟨fun | 6 => 72 | 15 => 98 | 14 => 97 | 28 => 114 | 29 => 115 | 20 => 106 | 21 => 107 | 22 => 108 | 23 => 109 | 24 => 110 | 25 => 111 | 26 => 112 | 27 => 113 | 46 => 118 | 47 => 119 | 48 => 120 | 49 => 121 | 50 => 122 | 57 => 126 | n => n, fun | 22 => 93 | 24 => 3 | 25 => 124 | 3 => 3 | 39 => 122 | 0 => 0 | 53 => 144 | 55 => 164 | 4 => 4 | 46 => 156 | 45 => 155 | 50 => 160 | 5 => 5 | 9 => 9 | 66 => 165 | 70 => 169 | 76 => 171 | 77 => 172 | n => n, fun | n => n⟩
theorem Tryz.sortInts : Go.Proofs.SlLaysF.n6 Tryz.prog Tryz.sortInts_ren := {
  mixed := by kernel_rfl
  f6 := ⟨Tryz.f72.name, by decide, Tryz.func72.trans (congrArg some (by kernel_rfl))⟩
  f14 := ⟨Tryz.f97.name, by decide, Tryz.func97.trans (congrArg some (by kernel_rfl))⟩
  f15 := Tryz.func98.trans (congrArg some (by kernel_rfl))
  f20 := ⟨Tryz.f106.name, by decide, Tryz.func106.trans (congrArg some (by kernel_rfl))⟩
  f21 := ⟨Tryz.f107.name, by decide, Tryz.func107.trans (congrArg some (by kernel_rfl))⟩
  f22 := ⟨Tryz.f108.name, by decide, Tryz.func108.trans (congrArg some (by kernel_rfl))⟩
  f23 := ⟨Tryz.f109.name, by decide, Tryz.func109.trans (congrArg some (by kernel_rfl))⟩
  f24 := ⟨Tryz.f110.name, by decide, Tryz.func110.trans (congrArg some (by kernel_rfl))⟩
  f25 := ⟨Tryz.f111.name, by decide, Tryz.func111.trans (congrArg some (by kernel_rfl))⟩
  f26 := ⟨Tryz.f112.name, by decide, Tryz.func112.trans (congrArg some (by kernel_rfl))⟩
  f27 := ⟨Tryz.f113.name, by decide, Tryz.func113.trans (congrArg some (by kernel_rfl))⟩
  f28 := Tryz.func114.trans (congrArg some (by kernel_rfl))
  f29 := Tryz.func115.trans (congrArg some (by kernel_rfl))
  f46 := ⟨Tryz.f118.name, by decide, Tryz.func118.trans (congrArg some (by kernel_rfl))⟩
  f47 := Tryz.func119.trans (congrArg some (by kernel_rfl))
  f48 := Tryz.func120.trans (congrArg some (by kernel_rfl))
  f49 := ⟨Tryz.f121.name, by decide, Tryz.func121.trans (congrArg some (by kernel_rfl))⟩
  f50 := ⟨Tryz.f122.name, by decide, Tryz.func122.trans (congrArg some (by kernel_rfl))⟩
  f57 := ⟨Tryz.f126.name, by decide, Tryz.func126.trans (congrArg some (by kernel_rfl))⟩
  t0 := Tryz.underlying0
  a0 := Tryz.isAgg0
  z0 := Tryz.sizeOf0
  v0 := Tryz.zeroValue0
  t3 := Tryz.underlying3
  a3 := Tryz.isAgg3
  z3 := Tryz.sizeOf3
  v3 := Tryz.zeroValue3
  t4 := Tryz.underlying4
  a4 := Tryz.isAgg4
  z4 := Tryz.sizeOf4
  v4 := Tryz.zeroValue4
  t5 := Tryz.underlying5
  a5 := Tryz.isAgg5
  z5 := Tryz.sizeOf5
  v5 := Tryz.zeroValue5
  t9 := Tryz.underlying9
  a9 := Tryz.isAgg9
  z9 := Tryz.sizeOf9
  v9 := Tryz.zeroValue9
  t22 := Tryz.underlying93
  a22 := Tryz.isAgg93
  z22 := Tryz.sizeOf93
  v22 := Tryz.zeroValue93
  a24 := Tryz.isAgg3
  z24 := Tryz.sizeOf3
  t25 := Tryz.underlying124
  a25 := Tryz.isAgg124
  z25 := Tryz.sizeOf124
  v25 := Tryz.zeroValue124
  t39 := Tryz.underlying122
  a39 := Tryz.isAgg122
  z39 := Tryz.sizeOf122
  v39 := Tryz.zeroValue122
  t45 := Tryz.underlying155
  a45 := Tryz.isAgg155
  z45 := Tryz.sizeOf155
  v45 := Tryz.zeroValue155
  t46 := Tryz.underlying156
  a46 := Tryz.isAgg156
  z46 := Tryz.sizeOf156
  v46 := Tryz.zeroValue156
  t50 := Tryz.underlying160
  a50 := Tryz.isAgg160
  z50 := Tryz.sizeOf160
  v50 := Tryz.zeroValue160
  t53 := Tryz.underlying144
  a53 := Tryz.isAgg144
  z53 := Tryz.sizeOf144
  v53 := Tryz.zeroValue144
  t55 := Tryz.underlying164
  a55 := Tryz.isAgg164
  z55 := Tryz.sizeOf164
  v55 := Tryz.zeroValue164
  t66 := Tryz.underlying165
  a66 := Tryz.isAgg165
  z66 := Tryz.sizeOf165
  v66 := Tryz.zeroValue165
  t70 := Tryz.underlying169
  a70 := Tryz.isAgg169
  z70 := Tryz.sizeOf169
  v70 := Tryz.zeroValue169
  t76 := Tryz.underlying171
  a76 := Tryz.isAgg171
  z76 := Tryz.sizeOf171
  v76 := Tryz.zeroValue171
  t77 := Tryz.underlying172
  a77 := Tryz.isAgg172
  z77 := Tryz.sizeOf172
  v77 := Tryz.zeroValue172 }
end Go.Proofs
namespace Go.Proofs.YtkkpdgfllnbigaaGreatDoor.Pm
open Go.RowKit Go.Shelf
set_option linter.unusedSimpArgs false

set_option maxHeartbeats 2000000 in
theorem closure64 (x y N B b off cap : Nat) (kx ky : ByteArray) (W : World) (hbox : W.cell? ⟨B, 0, none⟩ = some (.slice (some ⟨b, off, none⟩) N cap)) (h1 : W.cell? ⟨b, off + x, none⟩ = some (.string kx)) (h2 : W.cell? ⟨b, off + y, none⟩ = some (.string ky)) (hx : x < N) (hy : y < N) :
    Calls Tryz.prog 73 #[.int .i64 x, .int .i64 y, .pointer (some ⟨B, 0, none⟩)] W fun e w' => e = .returned (.int .i64 (cmpB kx ky)) ∧ ∃ q, w' = W.drewN q := by
  have hc := fun W => compare_B kx ky W
  generalize cmpB kx ky = C at *
  have z1 : (x : Int) < (N : Int) := by omega
  have z2 : (y : Int) < (N : Int) := by omega
  go_enter Tryz.func73, Tryz.ntmps73
  go_wp2
  go_quiet (first | (go_at_call 74; refine Calls.quiet_of_same (hc _)))
  go_wp2
  go_ret
  exact ⟨rfl, _, rfl⟩

def encP {M : Nat} (x : Fin (M + 1)) : Value := .int .i64 (x.val : Nat)
theorem lt_B {M : Nat} (ks : Fin (M + 1) → ByteArray) (x y : Fin (M + 1)) : ltOf (fun x y => cmpB (ks x) (ks y)) x y = true ↔ cmpB (ks x) (ks y) = -1 := by
  have := ord_B.range (ks x) (ks y)
  unfold ltOf
  simp
  omega
theorem lt_Bn {M : Nat} (ks : Fin (M + 1) → ByteArray) (x y : Fin (M + 1)) : ltOf (fun x y => cmpB (ks x) (ks y)) x y = false ↔ cmpB (ks x) (ks y) ≠ -1 := by
  rw [Ne, ← lt_B]; simp
theorem swo_B {M : Nat} (ks : Fin (M + 1) → ByteArray) : Sort.SWO (ltOf (fun x y => cmpB (ks x) (ks y))) := ⟨fun x => by rw [lt_Bn, ord_B.refl]; decide, fun x y z h1 h2 => by rw [lt_B] at *; exact ord_B.trans _ _ _ h1 h2, fun x y z h1 h2 => by
    rw [lt_Bn] at *
    intro h3
    rcases ord_B.range (ks x) (ks y) with h | h | h
    · exact h1 h
    · rw [ord_B.eq _ _ h] at h3; exact h2 h3
    · have : cmpB (ks y) (ks x) = -1 := by rw [ord_B.anti, h]
      exact h2 (ord_B.trans _ _ _ this h3)⟩
theorem only_sorted {M : Nat} (W : World) (G n : Nat) (d : Array (Fin (M + 1))) (os : Array Obj) : Only (fun j => j = G) W (sortWorld encP W G 0 n d os) := by
  have hheap : (sortWorld encP W G 0 n d os).heap = W.heap.modify G (Sort.onCells (Sort.putCells encP 0 d)) ++ os := rfl
  refine ⟨rfl, rfl, rfl, ?_, fun k hk hG => ?_⟩
  · rw [hheap]; simp
  · rw [hheap, Array.getElem?_append_left (by simpa using hk), Array.getElem?_modify, if_neg (fun e => hG e.symm)]

theorem sort63 (M : Nat) (ks : Fin (M + 1) → ByteArray) (B G b off cap kcap : Nat) (d : Array (Fin (M + 1))) (hd : d.size = M + 1) (W : World) (hbox : W.cell? ⟨B, 0, none⟩ = some (.slice (some ⟨b, off, none⟩) (M + 1) kcap)) (hk : ∀ x : Fin (M + 1), W.cell? ⟨b, off + x.val, none⟩ = some (.string (ks x))) (hBG : B ≠ G) (hbG : b ≠ G) (hH : Sort.Holds encP W G 0 d) (hM : M < 1000000) :
    Calls Tryz.prog 72 #[.slice (some ⟨G, 0, none⟩) (M + 1) cap, .func (.func 73) #[] #[.pointer (some ⟨B, 0, none⟩)]] W fun e w' => e = .returned (.tuple #[]) ∧ ∃ d' : Array (Fin (M + 1)), d'.size = M + 1 ∧ d'.toList.Perm d.toList ∧ (∀ i j, i < j → j < M + 1 → cmpB (ks d'[j]!) (ks d'[i]!) ≠ -1) ∧ Sort.Holds encP w' G 0 d' ∧ Only (fun j => j = G) W w' := by
  have eg : ∀ args w, (callFunc 73 args).run Tryz.prog w = .ok (.enter 73 args) w := enters_of Tryz.func73 (by kernel_rfl) rfl
  have hblk : G < W.heap.size := by
    have := (hH 0 (by omega)).1
    exact World.block_lt_of_cell? W _ this
  have hc : CmpLays1 Tryz.prog 73 #[.pointer (some ⟨B, 0, none⟩)] encP (fun x y => cmpB (ks x) (ks y)) G 0 d.size W := fun m os dk hdk x y => by
    have ho := only_sorted W G m dk os
    refine (closure64 x.val y.val (M + 1) B b off kcap (ks x) (ks y) (sortWorld encP W G 0 m dk os) (ho.cell hbox hBG) (ho.cell (hk x) hbG) (ho.cell (hk y) hbG) x.isLt y.isLt).mono ?_
    rintro e w' ⟨he, q, hw⟩
    exact ⟨he, q, #[], by rw [hw, Sort.grow_empty]⟩
  have hs := Any.slices_SortFunc Tryz.sortInts encP (fun _ => rfl) (fun x y => cmpB (ks x) (ks y)) (swo_B ks) 73 #[.pointer (some ⟨B, 0, none⟩)] G 0 cap d W eg hc hH hblk (by omega)
  change Calls Tryz.prog 72 _ _ _ at hs
  rw [hd] at hs
  refine hs.mono ?_
  rintro e w' ⟨he, d', n, os, hp, hso, rfl⟩
  have hsz : d'.size = M + 1 := hp.1.trans hd
  refine ⟨he, d', hsz, ?_, ?_, holds_sortWorld encP W G 0 n d d' os hblk hH hp.1, only_sorted W G n d' os⟩
  · have := hp.2.2
    have ex : ∀ (a : Array (Fin (M + 1))) n, a.size = n → a.extract 0 n = a := by intro a n h; subst h; simp
    rw [ex d' _ hsz, ex d _ hd] at this
    exact this
  · intro i j hij hj
    have := hso i j (Nat.zero_le _) hij hj
    rw [lt_Bn] at this
    exact this
end Go.Proofs.YtkkpdgfllnbigaaGreatDoor.Pm
namespace Go.Proofs.YtkkpdgfllnbigaaGreatDoor.Pm
open Go.RowKit Go.Shelf
set_option linter.unusedSimpArgs false

/-- A slice that tells values of one cell. -/
structure Cs (w : World) (v : Value) (l : List Value) : Prop where
  ex : ∃ ao cap, v = .slice ao l.length cap ∧ l.length ≤ cap ∧ ∀ j u, l[j]? = some u → ∃ b off, ao = some ⟨b, off, none⟩ ∧ w.cell? ⟨b, off + j, none⟩ = some u
theorem Cs.below {w w' : World} {v : Value} {l : List Value} (h : Cs w v l) (hb : Below w.heap.size w w') : Cs w' v l := by
  obtain ⟨ao, cap, e, hc, hr⟩ := h.ex
  exact ⟨ao, cap, e, hc, fun j u hj => by obtain ⟨b, off, e2, h2⟩ := hr j u hj; exact ⟨b, off, e2, cell_stays h2 hb⟩⟩
end Go.Proofs.YtkkpdgfllnbigaaGreatDoor.Pm
namespace Go.Proofs.YtkkpdgfllnbigaaGreatDoor.Pm
open Go.RowKit Go.Shelf
set_option linter.unusedSimpArgs false

def pl (N i : Nat) : List Value := (List.range N).map fun j => .int .i64 (if j < i then ((j : Nat) : Int) else 0)
theorem pl_get {N i j : Nat} (h : j < N) : (pl N i)[j]? = some (.int .i64 (if j < i then ((j : Nat) : Int) else 0)) := by simp [pl, h]
theorem pl_len (N i : Nat) : (pl N i).length = N := by simp [pl]
theorem pl_set {N i : Nat} (h : i < N) : (pl N i).set i (.int .i64 ((i : Nat) : Int)) = pl N (i + 1) := by
  apply List.ext_getElem?
  intro j
  rw [List.getElem?_set]
  by_cases e : i = j
  · subst e; simp [pl, h]
  · rw [if_neg e]
    by_cases hj : j < N
    · rw [pl_get hj, pl_get hj]
      by_cases h1 : j < i
      · rw [if_pos h1, if_pos (by omega)]
      · rw [if_neg h1, if_neg (by omega)]
    · rw [List.getElem?_eq_none (by rw [pl_len]; omega), List.getElem?_eq_none (by rw [pl_len]; omega)]
theorem pl_zero (N : Nat) : (madeCells (Value.int .i64 0).cells (N * 1)).toList = pl N 0 := by
  show (madeCells #[Value.int .i64 0] (N * 1)).toList = _
  rw [toList_madeCells_one, Nat.mul_one]
  apply List.ext_getElem?
  intro j
  by_cases hj : j < N
  · rw [pl_get hj]; simp [hj]
  · rw [List.getElem?_eq_none (by simp; omega), List.getElem?_eq_none (by rw [pl_len]; omega)]
theorem _root_.Go.Proofs.Tryz.info3 : (Tryz.prog.info? 3).map (fun i => (i.zero, i.size, i.bytes)) = some (some (.int .i64 0), 1, 8) := by kernel_rfl

theorem ofFn_range (n : Nat) : (Array.ofFn (fun x : Fin n => x)).toList.map Fin.val = List.range n := by
  rw [Array.toList_ofFn]
  apply List.ext_getElem
  · simp
  · intro j h1 h2
    simp
/-- What rising hands back: the places in the keys' order. -/
structure Rises (ks : List ByteArray) (p : List Nat) : Prop where
  perm : p.Perm (List.range ks.length)
  up : ∀ (i j x y : Nat) (kx ky : ByteArray), i < j → p[i]? = some x → p[j]? = some y → ks[x]? = some kx → ks[y]? = some ky → cmpB ky kx ≠ -1

set_option maxHeartbeats 4000000 in
set_option maxRecDepth 100000 in
theorem rising_any (ks : List ByteArray) (v : Value) (w : World) (h : Cs w v (ks.map .string)) (hl : ks.length ≤ 100000) : Calls Tryz.prog 46 #[v] w fun e w' => ∃ g cap p, e = .returned (.slice (some ⟨g, 0, none⟩) ks.length cap) ∧ ks.length ≤ cap ∧ Rises ks p ∧ (∀ j x, p[j]? = some x → w'.cell? ⟨g, j, none⟩ = some (.int .i64 (x : Nat))) ∧ Below w.heap.size w w' := by
  obtain ⟨ao, kcap, rfl, hkc, hr⟩ := h.ex
  rw [List.length_map] at *
  have hb0 : Below w.heap.size w (w.alloc (.cells #[.slice ao ks.length kcap] 50)) := (Below.refl _ w).alloc (Nat.le_refl _) _
  have hbox : (w.alloc (.cells #[.slice ao ks.length kcap] 50)).cell? ⟨w.heap.size, 0, none⟩ = some (.slice ao ks.length kcap) := cell_new w _ 50
  obtain ⟨N, hN⟩ : ∃ N, N = ks.length := ⟨_, rfl⟩
  rw [← hN] at hbox hb0 hl hkc ⊢
  obtain ⟨w1, hw1⟩ : ∃ w1, w1 = w.alloc (.cells #[.slice ao N kcap] 50) := ⟨_, rfl⟩
  have hs1 : w1.heap.size = w.heap.size + 1 := by rw [hw1]; simp
  obtain ⟨i3, hi1, hi2, hi3, hi4⟩ := info_parts Tryz.info3
  obtain ⟨w2, hrun, hown, hgr⟩ := run_make_full (P := Tryz.prog) w1 w1.heap.size 93 3 i3 (.int .i64 0) 1 Tryz.underlying93 hi1 hi2 hi3 .i64 .i64 N (by rw [hi4]; omega) (by unfold maxLen; omega) (Nat.le_refl _)
  rw [pl_zero] at hown
  rw [← hw1] at hb0 hbox
  have hb2 : Below w1.heap.size w1 w2 := (Below.refl _ w1).grown hgr (Nat.le_refl _) (fun j hj => by cases hj)
  rw [hs1] at hown hrun
  have HW := hide hw1
  have HS := hide hs1
  have HH := hide (And.intro hb0 (And.intro hbox (And.intro hown (And.intro hb2 (And.intro hr hN)))))
  rw [hw1] at hrun
  clear h hr hb0 hbox hown hb2 hgr hi1 hi2 hi3 hi4 hs1 hw1 hN
  go_enter Tryz.func46, Tryz.ntmps46
  go_wp2
  go_loopw [10] (fun v10 wr => ∃ i : Nat, i ≤ N ∧ v10 = .int .i64 i ∧ Hid (wr.ownsRow (w.heap.size + 1) 3 1 (.slice (some ⟨w.heap.size + 1, 0, none⟩) N N) N (pl N i) ∧ Below w1.heap.size w1 wr)) (fun v10 _ => N - (intOf v10).toNat)
  case atStart => exact ⟨0, by omega, rfl, hide ⟨HH.out.2.2.1, HH.out.2.2.2.1⟩⟩
  case round =>
    obtain ⟨i, hi, rfl, HI⟩ := hrel
    by_cases hiN : i < N
    · have z1 : (i : Int) < (N : Int) := by omega
      have hc := HI.out.1.cellAt i (by omega)
      rw [pl_get hiN] at hc
      have hf := HI.out.1.frozenAt i
      have hst := HI.out.1.stored i (.int .i64 ((i : Nat) : Int))
      rw [pl_set hiN] at hst
      have HST := hide hst
      clear hst
      generalize (if i < i then ((i : Nat) : Int) else 0) = z at hc
      go_wp2
      go_roundw
      case rel => exact ⟨i + 1, by omega, by go_num, hide ⟨HST.out.1, HI.out.2.grown HST.out.2 HI.out.2.size (fun j hj => by cases hj; rw [HS.out]; exact Nat.le_refl _)⟩⟩
      case measure => simp [intOf]; omega
    · have hN : i = N := by omega
      subst hN
      have z2 : decide ((i : Int) < (i : Int)) = false := by simp
      clear hi hiN
      have hown := HI.out.1
      have hbw := HI.out.2
      have hbx := cell_stays HH.out.2.1 hbw
      cases i with
      | zero =>
        have hs : ∀ W fv, Calls Tryz.prog 72 #[.slice (some ⟨w.heap.size + 1, 0, none⟩) 0 0, fv] W fun e w' => e = .returned (.tuple #[]) ∧ w' = W := fun W fv => AnyF.slices_SortFunc_none (P := Tryz.prog) (ρ := Tryz.sortInts_ren) { Tryz.sortInts with } _ _ _ _
        clear hown hbx z2
        have HB := hide hbw
        clear hbw
        go_wp2_with (go_at_call 72; refine (hs _ _).mono ?_; rintro e w' ⟨rfl, hw⟩; replace hw := hw.symm; subst hw)
        go_ret
        exact ⟨_, _, [], rfl, Nat.le_refl _, ⟨by rw [← HH.out.2.2.2.2.2]; exact List.Perm.refl _, by simp⟩, by simp, HH.out.1.trans (HB.out.mono HH.out.1.size)⟩
      | succ M =>
        have hlen := HH.out.2.2.2.2.2
        have hr := HH.out.2.2.2.2.1
        have hkx : ∀ x : Fin (M + 1), ∃ y, ks[x.val]? = some y := fun x => ⟨ks[x.val]'(by rw [← hlen]; exact x.isLt), List.getElem?_eq_getElem _⟩
        obtain ⟨kf, hkf⟩ : ∃ kf : Fin (M + 1) → ByteArray, ∀ x, ks[x.val]? = some (kf x) := ⟨fun x => ks[x.val]'(by rw [← hlen]; exact x.isLt), fun x => List.getElem?_eq_getElem _⟩
        obtain ⟨b, off, hao, hzz⟩ := hr 0 (.string (kf ⟨0, by omega⟩)) (by rw [List.getElem?_map, hkf ⟨0, by omega⟩]; rfl)
        have hk : ∀ x : Fin (M + 1), w.cell? ⟨b, off + x.val, none⟩ = some (.string (kf x)) := fun x => by
          obtain ⟨b', off', h1, h2⟩ := hr x.val (.string (kf x)) (by rw [List.getElem?_map, hkf x]; rfl)
          rw [hao] at h1
          simp only [Option.some.injEq, Addr.mk.injEq] at h1
          obtain ⟨rfl, rfl, _⟩ := h1
          exact h2
        have hbw0 := HH.out.1.trans (hbw.mono HH.out.1.size)
        have hblt : b < w.heap.size := World.block_lt_of_cell? w _ (hk ⟨0, by omega⟩)
        have hH : Sort.Holds encP wr (w.heap.size + 1) 0 (Array.ofFn (fun x : Fin (M + 1) => x)) := fun j hj => by
          have hj' : j < M + 1 := by simpa using hj
          refine ⟨?_, hown.frozenAt _⟩
          rw [Nat.zero_add, hown.cellAt j (by omega), pl_get hj', getElem!_pos _ j hj]
          simp [encP, hj']
        have hs := sort63 M kf w.heap.size (w.heap.size + 1) b off (M + 1) kcap (Array.ofFn (fun x : Fin (M + 1) => x)) (by simp) wr (by rw [← hao]; exact hbx) (fun x => cell_stays (hk x) hbw0) (by omega) (by omega) hH (by omega)
        have HB := hide hbw0
        have HK := hide hkf
        have HL := hide hlen
        clear hzz
        clear hown hbx hk hH hr hkx hkf hlen hbw hbw0 hblt hao z2
        go_wp2_with (go_at_call 72; refine hs.mono ?_; rintro e w' ⟨rfl, d', hsz, hp, hup, hhd, ho⟩)
        go_ret
        refine ⟨_, _, d'.toList.map Fin.val, rfl, Nat.le_refl _, ⟨?_, ?_⟩, ?_, HB.out.trans (ho.below HB.out.size (fun k e => by rw [e]; omega))⟩
        · rw [← HL.out]
          refine (hp.map Fin.val).trans ?_
          rw [ofFn_range]
        · intro i j x y kx ky hij hx hy hkx hky
          rw [List.getElem?_map] at hx hy
          obtain ⟨fx, hfx, rfl⟩ := Option.map_eq_some_iff.1 hx
          obtain ⟨fy, hfy, rfl⟩ := Option.map_eq_some_iff.1 hy
          have hjl := (List.getElem?_eq_some_iff.1 hfy).1
          rw [Array.length_toList, hsz] at hjl
          have := hup i j hij hjl
          rw [Array.getElem?_toList] at hfx hfy
          rw [Array.getElem!_eq_getD, Array.getElem!_eq_getD, Array.getD_eq_getD_getElem?, Array.getD_eq_getD_getElem?, hfx, hfy] at this
          rw [HK.out fx] at hkx
          rw [HK.out fy] at hky
          cases hkx
          cases hky
          exact this
        · intro j x hx
          rw [List.getElem?_map] at hx
          obtain ⟨fx, hfx, rfl⟩ := Option.map_eq_some_iff.1 hx
          have hjl := (List.getElem?_eq_some_iff.1 hfx).1
          rw [Array.length_toList] at hjl
          have := (hhd j hjl).1
          rw [Array.getElem?_toList] at hfx
          rw [Nat.zero_add, Array.getElem!_eq_getD, Array.getD_eq_getD_getElem?, hfx] at this
          exact this
end Go.Proofs.YtkkpdgfllnbigaaGreatDoor.Pm
namespace Go.Proofs.YtkkpdgfllnbigaaGreatDoor.Pm
open Go.RowKit Go.Shelf
set_option linter.unusedSimpArgs false

abbrev Nm := ByteArray × ByteArray
def hgt (n : Nat) : Nat := if h : n = 0 then 0 else hgt (n / 2) + 1
decreasing_by omega
theorem hgt_zero : hgt 0 = 0 := by rw [hgt]; rfl
theorem hgt_pos {n : Nat} (h : n ≠ 0) : hgt n = hgt (n / 2) + 1 := by rw [hgt, dif_neg h]
theorem hgt_mono (n : Nat) : ∀ m, m ≤ n → hgt m ≤ hgt n := by
  induction n using Nat.strongRecOn with
  | ind n ih =>
    intro m hm
    by_cases h0 : m = 0
    · rw [h0, hgt_zero]; omega
    · rw [hgt_pos h0, hgt_pos (n := n) (by omega)]
      have := ih (n / 2) (by omega) (m / 2) (by omega)
      omega
theorem hgt_succ (n : Nat) : hgt (n + 1) ≤ hgt n + 1 := by
  induction n using Nat.strongRecOn with
  | ind n ih =>
    by_cases h0 : n = 0
    · subst h0; rw [hgt_pos (by omega)]; simp [hgt_zero]
    · rw [hgt_pos (n := n + 1) (by omega), hgt_pos h0]
      by_cases hp : (n + 1) / 2 = n / 2
      · rw [hp]; omega
      · have e : (n + 1) / 2 = n / 2 + 1 := by omega
        rw [e]
        have := ih (n / 2) (by omega)
        omega
theorem halves {n m : Nat} (h0 : n ≠ 0) (hm : m = n / 2) : hgt n = max (hgt m) (hgt (n - (m + 1))) + 1 ∧ hgt m ≤ hgt (n - (m + 1)) + 1 ∧ hgt (n - (m + 1)) ≤ hgt m + 1 := by
  have h1 := hgt_mono m (n - (m + 1)) (by omega)
  have h2 := hgt_mono (n - (m + 1) + 1) m (by omega)
  have h3 := hgt_succ (n - (m + 1))
  rw [hgt_pos h0, ← hm]
  refine ⟨?_, ?_, ?_⟩
  · rw [Nat.max_eq_left h1]
  · omega
  · omega
theorem slice51_hi {g o n m cap : Nat} (hm : m ≤ cap) (hc : 0 < cap) (w' : World) : (Instr.slice 93 (.slice (some ⟨g, o, none⟩) n cap) none (some (.int .i64 (m : Nat))) none).run Tryz.prog w' = .ok (.slice (some ⟨g, o, none⟩) m cap) w' := by
  have h2 : (0 : Int) ≤ (m : Int) ∧ (m : Int) ≤ (cap : Int) := by omega
  have h3 : ¬ cap = 0 := by omega
  simp [Instr.slice, Instr.sliceBounds, Instr.sliceBound, asIntOf, run_underlying Tryz.underlying93, go_sem, hm, h3, Tryz.sizeOf3, add_lit]
theorem slice51_lo {g o n m cap : Nat} (hm : m ≤ n) (hc : n ≤ cap) (w' : World) : (Instr.slice 93 (.slice (some ⟨g, o, none⟩) n cap) (some (.int .i64 (m : Nat))) none none).run Tryz.prog w' = .ok (.slice (some ⟨g, (if cap = m then o else o + m), none⟩) (n - m) (cap - m)) w' := by
  have hcm : m ≤ cap := Nat.le_trans hm hc
  have h2 : (0 : Int) ≤ (m : Int) ∧ (m : Int) ≤ (n : Int) := by omega
  by_cases h : cap = m
  · simp [Instr.slice, Instr.sliceBounds, Instr.sliceBound, asIntOf, run_underlying Tryz.underlying93, go_sem, hm, hcm, Tryz.sizeOf3, add_lit, h]
  · simp [Instr.slice, Instr.sliceBounds, Instr.sliceBound, asIntOf, run_underlying Tryz.underlying93, go_sem, hm, hcm, Tryz.sizeOf3, add_lit, h]

/-- What the closure has. -/
structure HEnv (W : World) (F K V : Nat) (ks : List ByteArray) (vs : List ByteArray) : Prop where
  f : W.cell? ⟨F, 0, none⟩ = some (.func (.func 47) #[] #[.pointer (some ⟨F, 0, none⟩), .pointer (some ⟨K, 0, none⟩), .pointer (some ⟨V, 0, none⟩)])
  k : ∃ kv, W.cell? ⟨K, 0, none⟩ = some kv ∧ Cs W kv (ks.map .string)
  v : ∃ vv, W.cell? ⟨V, 0, none⟩ = some vv ∧ Cs W vv (vs.map .string)
theorem HEnv.below {W W' : World} {F K V : Nat} {ks : List ByteArray} {vs : List ByteArray} (h : HEnv W F K V ks vs) (hb : Below W.heap.size W W') : HEnv W' F K V ks vs := by
  obtain ⟨kv, k1, k2⟩ := h.k
  obtain ⟨vv, v1, v2⟩ := h.v
  exact ⟨cell_stays h.f hb, ⟨kv, cell_stays k1 hb, k2.below hb⟩, ⟨vv, cell_stays v1 hb, v2.below hb⟩⟩
def ent (ks : List ByteArray) (vs : List ByteArray) (i : Nat) : Nm := (ks[i]?.getD ⟨#[]⟩, vs[i]?.getD ⟨#[]⟩)
theorem Cs.at {w : World} {v : Value} {l : List Value} {j : Nat} {u : Value} (h : Cs w v l) (hj : l[j]? = some u) : ∃ b off cap, v = .slice (some ⟨b, off, none⟩) l.length cap ∧ l.length ≤ cap ∧ w.cell? ⟨b, off + j, none⟩ = some u ∧ ∀ i u, l[i]? = some u → w.cell? ⟨b, off + i, none⟩ = some u := by
  obtain ⟨ao, cap, rfl, hc, hr⟩ := h.ex
  obtain ⟨b, off, rfl, h1⟩ := hr j u hj
  exact ⟨b, off, cap, rfl, hc, h1, fun i u hi => by
    obtain ⟨b', off', e, h2⟩ := hr i u hi
    simp only [Option.some.injEq, Addr.mk.injEq] at e
    obtain ⟨rfl, rfl, _⟩ := e
    exact h2⟩

set_option maxHeartbeats 4000000 in
set_option maxRecDepth 100000 in
theorem half_any (F K V : Nat) (ks : List ByteArray) (vs : List ByteArray) (hkv : ks.length = vs.length) : ∀ (n : Nat) (p : List Nat) (sv : Value) (W : World), p.length = n → n ≤ 100000 → (∀ i ∈ p, i < ks.length) → HEnv W F K V ks vs → Cs W sv (p.map fun i => .int .i64 ((i : Nat) : Int)) →
    Calls Tryz.prog 47 #[sv, .pointer (some ⟨F, 0, none⟩), .pointer (some ⟨K, 0, none⟩), .pointer (some ⟨V, 0, none⟩)] W fun e w' => ∃ t, Gives W e w' t ∧ t.list = p.map (ent ks vs) ∧ t.h = hgt n ∧ t.bal ∧ t.over W.heap.size := by
  intro n
  induction n using Nat.strongRecOn with
  | ind n ih =>
  intro p sv W hpn hn hp henv hcs
  by_cases h0 : n = 0
  · subst h0
    have hp0 : p = [] := List.eq_nil_of_length_eq_zero hpn
    subst hp0
    obtain ⟨ao, cap, rfl, _, _⟩ := hcs.ex
    simp only [List.map_nil, List.length_nil]
    go_enter Tryz.func47, Tryz.ntmps47
    go_wp2
    go_ret
    exact ⟨.nil, ⟨rfl, trivial, Below.refl _ _⟩, rfl, hgt_zero.symm, trivial, T.over_nil⟩
  · obtain ⟨m, hm⟩ : ∃ m, m = n / 2 := ⟨_, rfl⟩
    have hmn : m < n := by omega
    obtain ⟨x, hx⟩ : ∃ x, p[m]? = some x := ⟨p[m]'(by omega), List.getElem?_eq_getElem _⟩
    have hxk := hp x (List.mem_of_getElem? hx)
    obtain ⟨kx, hkx⟩ : ∃ y, ks[x]? = some y := ⟨ks[x]'hxk, List.getElem?_eq_getElem _⟩
    obtain ⟨vx, hvx⟩ : ∃ y, vs[x]? = some y := ⟨vs[x]'(by omega), List.getElem?_eq_getElem _⟩
    obtain ⟨g, o, cap, rfl, hcap, hcx, hca⟩ := hcs.at (j := m) (u := .int .i64 ((x : Nat) : Int)) (by rw [List.getElem?_map, hx]; rfl)
    obtain ⟨kv, k1, k2⟩ := henv.k
    obtain ⟨vv, v1, v2⟩ := henv.v
    obtain ⟨kb, ko, kc, rfl, hkc, hck, _⟩ := k2.at (j := x) (u := .string kx) (by rw [List.getElem?_map, hkx]; rfl)
    obtain ⟨vb, vo, vc, rfl, hvc, hcv, _⟩ := v2.at (j := x) (u := .string vx) (by rw [List.getElem?_map, hvx]; rfl)
    rw [List.length_map] at *
    rw [hpn] at hcap hcs ⊢
    have hL1 : ∀ w', Below W.heap.size W w' → Calls Tryz.prog 47 #[.slice (some ⟨g, o, none⟩) m cap, .pointer (some ⟨F, 0, none⟩), .pointer (some ⟨K, 0, none⟩), .pointer (some ⟨V, 0, none⟩)] w' fun e w'' => ∃ t, Gives w' e w'' t ∧ t.list = (p.take m).map (ent ks vs) ∧ t.h = hgt m ∧ t.bal ∧ t.over w'.heap.size := fun w' hw' => by
      refine ih m hmn (p.take m) _ w' (by rw [List.length_take]; omega) (by omega) (fun i hi => hp i (List.mem_of_mem_take hi)) (henv.below hw') ⟨some ⟨g, o, none⟩, cap, by simp [List.length_take, hpn]; omega, by simp [List.length_take]; omega, fun j u hj => ⟨g, o, rfl, ?_⟩⟩
      rw [List.map_take, List.getElem?_take] at hj
      split at hj
      · exact cell_stays (hca j u hj) hw'
      · cases hj
    have hL2 : ∀ w', Below W.heap.size W w' → Calls Tryz.prog 47 #[.slice (some ⟨g, (if cap = m + 1 then o else o + (m + 1)), none⟩) (n - (m + 1)) (cap - (m + 1)), .pointer (some ⟨F, 0, none⟩), .pointer (some ⟨K, 0, none⟩), .pointer (some ⟨V, 0, none⟩)] w' fun e w'' => ∃ t, Gives w' e w'' t ∧ t.list = (p.drop (m + 1)).map (ent ks vs) ∧ t.h = hgt (n - (m + 1)) ∧ t.bal ∧ t.over w'.heap.size := fun w' hw' => by
      refine ih (n - (m + 1)) (by omega) (p.drop (m + 1)) _ w' (by rw [List.length_drop, hpn]) (by omega) (fun i hi => hp i (List.mem_of_mem_drop hi)) (henv.below hw') ⟨some ⟨g, (if cap = m + 1 then o else o + (m + 1)), none⟩, cap - (m + 1), by simp [hpn], by simp [hpn]; omega, fun j u hj => ⟨g, (if cap = m + 1 then o else o + (m + 1)), rfl, ?_⟩⟩
      rw [List.map_drop, List.getElem?_drop] at hj
      have hlt := (List.getElem?_eq_some_iff.1 hj).1
      rw [List.length_map, hpn] at hlt
      rw [if_neg (by omega), Nat.add_assoc]
      exact cell_stays (hca (m + 1 + j) u hj) hw'
    have q0 : W.cell? ⟨F, 0, none⟩ = some (.func (.func 47) #[] #[.pointer (some ⟨F, 0, none⟩), .pointer (some ⟨K, 0, none⟩), .pointer (some ⟨V, 0, none⟩)]) ∧ W.cell? ⟨K, 0, none⟩ = some (.slice (some ⟨kb, ko, none⟩) ks.length kc) ∧ W.cell? ⟨V, 0, none⟩ = some (.slice (some ⟨vb, vo, none⟩) ks.length vc) ∧ W.cell? ⟨g, o + m, none⟩ = some (.int .i64 (x : Nat)) ∧ W.cell? ⟨kb, ko + x, none⟩ = some (.string kx) ∧ W.cell? ⟨vb, vo + x, none⟩ = some (.string vx) ∧ Hid (Below W.heap.size W W) := ⟨henv.f, k1, by rw [hkv]; exact v1, hcx, hck, hcv, hide (Below.refl _ _)⟩
    have s1 := fun w' => slice51_hi (g := g) (o := o) (n := n) (m := m) (cap := cap) (by omega) (by omega) w'
    have s2 := fun w' => slice51_lo (g := g) (o := o) (n := n) (m := m + 1) (cap := cap) (by omega) (by omega) w'
    have w1 : ((m + 1 : Nat) : Int) = (m : Int) + 1 := by omega
    rw [w1] at s2
    generalize (if cap = m + 1 then o else o + (m + 1)) = O at hL2 s2
    have HL1 := hide hL1
    have HL2 := hide hL2
    have HE : Hid ((ent ks vs x) = (kx, vx)) := hide (by unfold ent; rw [hkx, hvx]; rfl)
    have HN := hide (And.intro hpn (And.intro hn (And.intro hmn (And.intro hm (And.intro h0 hx)))))
    obtain ⟨S, hS⟩ : ∃ S, S = ks.length := ⟨_, rfl⟩
    rw [← hS] at q0 hxk
    have hq : Int.tdiv (n : Int) 2 = (m : Int) := by rw [hm, Int.tdiv_eq_ediv_of_nonneg (by omega)]; omega
    have w5 : IntKind.i64.wrap ((m : Int) + 1) = (m : Int) + 1 := by rw [IntKind.wrap_i64]; omega
    have z0 : ¬ ((n : Int) = 0) := by omega
    have z00 : ((n : Int) == 0) = false := by simpa using z0
    have z1 : (m : Int) < (n : Int) := by omega
    have z2 : (x : Int) < (S : Int) := by omega
    obtain ⟨wb, hwb⟩ : ∃ wb, wb = W := ⟨_, rfl⟩
    rw [← hwb] at q0 HL1 HL2 ⊢
    clear hL1 hL2 hcs hca hcx hck hcv henv k1 k2 v1 v2 hkx hvx hx hS hkc hvc hkv ih hp hm hwb w1
    go_enter Tryz.func47, Tryz.ntmps47
    go_upto_region 4 with (fail)

    have qd : wb.drew.cell? ⟨F, 0, none⟩ = some (.func (.func 47) #[] #[.pointer (some ⟨F, 0, none⟩), .pointer (some ⟨K, 0, none⟩), .pointer (some ⟨V, 0, none⟩)]) ∧ wb.drew.cell? ⟨K, 0, none⟩ = some (.slice (some ⟨kb, ko, none⟩) S kc) ∧ wb.drew.cell? ⟨V, 0, none⟩ = some (.slice (some ⟨vb, vo, none⟩) S vc) ∧ wb.drew.cell? ⟨g, o + m, none⟩ = some (.int .i64 (x : Nat)) ∧ wb.drew.cell? ⟨kb, ko + x, none⟩ = some (.string kx) ∧ wb.drew.cell? ⟨vb, vo + x, none⟩ = some (.string vx) ∧ Hid (Below wb.heap.size wb wb.drew) := ⟨q0.1, q0.2.1, q0.2.2.1, q0.2.2.2.1, q0.2.2.2.2.1, q0.2.2.2.2.2.1, hide (q0.2.2.2.2.2.2.out.trans ((drew_below wb).mono q0.2.2.2.2.2.2.out.size))⟩
    refine wp_region_held_drew (S := (fun w' => w'.cell? ⟨F, 0, none⟩ = some (.func (.func 47) #[] #[.pointer (some ⟨F, 0, none⟩), .pointer (some ⟨K, 0, none⟩), .pointer (some ⟨V, 0, none⟩)]) ∧ w'.cell? ⟨K, 0, none⟩ = some (.slice (some ⟨kb, ko, none⟩) S kc) ∧ w'.cell? ⟨V, 0, none⟩ = some (.slice (some ⟨vb, vo, none⟩) S vc) ∧ w'.cell? ⟨g, o + m, none⟩ = some (.int .i64 (x : Nat)) ∧ w'.cell? ⟨kb, ko + x, none⟩ = some (.string kx) ∧ w'.cell? ⟨vb, vo + x, none⟩ = some (.string vx) ∧ Hid (Below wb.heap.size wb w'))) (by kernel_rfl) qd (fun hHeld => ?_)
    try dsimp only at hHeld
    refine take_op (i := 0) (d := 13) (OP := Op.load 95 (Operand.tmp 1)) (T := 95) (v := ?v1) rfl rfl rfl rfl (by kernel_rfl) (by kernel_rfl) (by kernel_rfl) (fun _ _ _ h => h) (by rfl) ?h1 hHeld ?r1
    case h1 => (intro w' hSw; (try dsimp only at hSw); go_simp <;> with_reducible rfl)
    try simp only [Act.put, sI, sZ, sS]
    refine take_op (i := 1) (d := 14) (OP := Op.move (Operand.tmp 0)) (T := 93) (v := ?v2) rfl rfl rfl rfl (by kernel_rfl) (by kernel_rfl) (by kernel_rfl) (fun _ _ _ h => h) (by rfl) ?h2 hHeld ?r2
    case h2 => (intro w' hSw; (try dsimp only at hSw); go_simp <;> with_reducible rfl)
    try simp only [Act.put, sI, sZ, sS]
    refine take_op (i := 2) (d := 15) (OP := Op.move (Operand.tmp 6)) (T := 3) (v := ?v3) rfl rfl rfl rfl (by kernel_rfl) (by kernel_rfl) (by kernel_rfl) (fun _ _ _ h => h) (by rfl) ?h3 hHeld ?r3
    case h3 => (intro w' hSw; (try dsimp only at hSw); go_simp <;> with_reducible rfl)
    try simp only [Act.put, sI, sZ, sS]
    refine take_op (i := 3) (d := 16) (OP := Op.slice 93 (Operand.tmp 14) none (some (Operand.tmp 15)) none) (T := 93) (v := ?v4) rfl rfl rfl rfl (by kernel_rfl) (by kernel_rfl) (by kernel_rfl) (fun _ _ _ h => h) (by rfl) ?h4 hHeld ?r4
    case h4 => (intro w' hSw; (try dsimp only at hSw); go_simp <;> with_reducible rfl)
    try simp only [Act.put, sI, sZ, sS]
    refine take_op (i := 5) (d := 18) (OP := Op.load 50 (Operand.tmp 2)) (T := 50) (v := ?v5) rfl rfl rfl rfl (by kernel_rfl) (by kernel_rfl) (by kernel_rfl) (fun _ _ _ h => h) (by rfl) ?h5 hHeld ?r5
    case h5 => (intro w' hSw; (try dsimp only at hSw); go_simp <;> with_reducible rfl)
    try simp only [Act.put, sI, sZ, sS]
    refine take_op (i := 6) (d := 19) (OP := Op.move (Operand.tmp 0)) (T := 93) (v := ?v6) rfl rfl rfl rfl (by kernel_rfl) (by kernel_rfl) (by kernel_rfl) (fun _ _ _ h => h) (by rfl) ?h6 hHeld ?r6
    case h6 => (intro w' hSw; (try dsimp only at hSw); go_simp <;> with_reducible rfl)
    try simp only [Act.put, sI, sZ, sS]
    refine take_op (i := 7) (d := 20) (OP := Op.move (Operand.tmp 6)) (T := 3) (v := ?v7) rfl rfl rfl rfl (by kernel_rfl) (by kernel_rfl) (by kernel_rfl) (fun _ _ _ h => h) (by rfl) ?h7 hHeld ?r7
    case h7 => (intro w' hSw; (try dsimp only at hSw); go_simp <;> with_reducible rfl)
    try simp only [Act.put, sI, sZ, sS]
    refine take_op (i := 8) (d := 21) (OP := Op.indexAddr 93 (Operand.tmp 19) (Operand.tmp 20)) (T := 0) (v := ?v8) rfl rfl rfl rfl (by kernel_rfl) (by kernel_rfl) (by kernel_rfl) (fun _ _ _ h => h) (by rfl) ?h8 hHeld ?r8
    case h8 => (intro w' hSw; (try dsimp only at hSw); go_simp <;> with_reducible rfl)
    try simp only [Act.put, sI, sZ, sS]
    refine take_op (i := 9) (d := 22) (OP := Op.load 3 (Operand.tmp 21)) (T := 3) (v := ?v9) rfl rfl rfl rfl (by kernel_rfl) (by kernel_rfl) (by kernel_rfl) (fun _ _ _ h => h) (by rfl) ?h9 hHeld ?r9
    case h9 => (intro w' hSw; (try dsimp only at hSw); go_simp <;> with_reducible rfl)
    try simp only [Act.put, sI, sZ, sS]
    refine take_op (i := 10) (d := 23) (OP := Op.indexAddr 50 (Operand.tmp 18) (Operand.tmp 22)) (T := 0) (v := ?v10) rfl rfl rfl rfl (by kernel_rfl) (by kernel_rfl) (by kernel_rfl) (fun _ _ _ h => h) (by rfl) ?h10 hHeld ?r10
    case h10 => (intro w' hSw; (try dsimp only at hSw); go_simp <;> with_reducible rfl)
    try simp only [Act.put, sI, sZ, sS]
    refine take_op (i := 11) (d := 24) (OP := Op.load 9 (Operand.tmp 23)) (T := 9) (v := ?v11) rfl rfl rfl rfl (by kernel_rfl) (by kernel_rfl) (by kernel_rfl) (fun _ _ _ h => h) (by rfl) ?h11 hHeld ?r11
    case h11 => (intro w' hSw; (try dsimp only at hSw); go_simp <;> with_reducible rfl)
    try simp only [Act.put, sI, sZ, sS]
    refine take_op (i := 12) (d := 25) (OP := Op.load 50 (Operand.tmp 3)) (T := 50) (v := ?v12) rfl rfl rfl rfl (by kernel_rfl) (by kernel_rfl) (by kernel_rfl) (fun _ _ _ h => h) (by rfl) ?h12 hHeld ?r12
    case h12 => (intro w' hSw; (try dsimp only at hSw); go_simp <;> with_reducible rfl)
    try simp only [Act.put, sI, sZ, sS]
    refine take_op (i := 13) (d := 26) (OP := Op.move (Operand.tmp 0)) (T := 93) (v := ?v13) rfl rfl rfl rfl (by kernel_rfl) (by kernel_rfl) (by kernel_rfl) (fun _ _ _ h => h) (by rfl) ?h13 hHeld ?r13
    case h13 => (intro w' hSw; (try dsimp only at hSw); go_simp <;> with_reducible rfl)
    try simp only [Act.put, sI, sZ, sS]
    refine take_op (i := 14) (d := 27) (OP := Op.move (Operand.tmp 6)) (T := 3) (v := ?v14) rfl rfl rfl rfl (by kernel_rfl) (by kernel_rfl) (by kernel_rfl) (fun _ _ _ h => h) (by rfl) ?h14 hHeld ?r14
    case h14 => (intro w' hSw; (try dsimp only at hSw); go_simp <;> with_reducible rfl)
    try simp only [Act.put, sI, sZ, sS]
    refine take_op (i := 15) (d := 28) (OP := Op.indexAddr 93 (Operand.tmp 26) (Operand.tmp 27)) (T := 0) (v := ?v15) rfl rfl rfl rfl (by kernel_rfl) (by kernel_rfl) (by kernel_rfl) (fun _ _ _ h => h) (by rfl) ?h15 hHeld ?r15
    case h15 => (intro w' hSw; (try dsimp only at hSw); go_simp <;> with_reducible rfl)
    try simp only [Act.put, sI, sZ, sS]
    refine take_op (i := 16) (d := 29) (OP := Op.load 3 (Operand.tmp 28)) (T := 3) (v := ?v16) rfl rfl rfl rfl (by kernel_rfl) (by kernel_rfl) (by kernel_rfl) (fun _ _ _ h => h) (by rfl) ?h16 hHeld ?r16
    case h16 => (intro w' hSw; (try dsimp only at hSw); go_simp <;> with_reducible rfl)
    try simp only [Act.put, sI, sZ, sS]
    refine take_op (i := 17) (d := 30) (OP := Op.indexAddr 50 (Operand.tmp 25) (Operand.tmp 29)) (T := 0) (v := ?v17) rfl rfl rfl rfl (by kernel_rfl) (by kernel_rfl) (by kernel_rfl) (fun _ _ _ h => h) (by rfl) ?h17 hHeld ?r17
    case h17 => (intro w' hSw; (try dsimp only at hSw); go_simp <;> with_reducible rfl)
    try simp only [Act.put, sI, sZ, sS]
    refine take_op (i := 18) (d := 31) (OP := Op.load 9 (Operand.tmp 30)) (T := 9) (v := ?v18) rfl rfl rfl rfl (by kernel_rfl) (by kernel_rfl) (by kernel_rfl) (fun _ _ _ h => h) (by rfl) ?h18 hHeld ?r18
    case h18 => (intro w' hSw; (try dsimp only at hSw); go_simp <;> with_reducible rfl)
    try simp only [Act.put, sI, sZ, sS]
    refine take_op (i := 19) (d := 32) (OP := Op.load 95 (Operand.tmp 1)) (T := 95) (v := ?v19) rfl rfl rfl rfl (by kernel_rfl) (by kernel_rfl) (by kernel_rfl) (fun _ _ _ h => h) (by rfl) ?h19 hHeld ?r19
    case h19 => (intro w' hSw; (try dsimp only at hSw); go_simp <;> with_reducible rfl)
    try simp only [Act.put, sI, sZ, sS]
    refine take_op (i := 20) (d := 33) (OP := Op.move (Operand.tmp 0)) (T := 93) (v := ?v20) rfl rfl rfl rfl (by kernel_rfl) (by kernel_rfl) (by kernel_rfl) (fun _ _ _ h => h) (by rfl) ?h20 hHeld ?r20
    case h20 => (intro w' hSw; (try dsimp only at hSw); go_simp <;> with_reducible rfl)
    try simp only [Act.put, sI, sZ, sS]
    refine take_op (i := 21) (d := 34) (OP := Op.move (Operand.tmp 6)) (T := 3) (v := ?v21) rfl rfl rfl rfl (by kernel_rfl) (by kernel_rfl) (by kernel_rfl) (fun _ _ _ h => h) (by rfl) ?h21 hHeld ?r21
    case h21 => (intro w' hSw; (try dsimp only at hSw); go_simp <;> with_reducible rfl)
    try simp only [Act.put, sI, sZ, sS]
    refine take_op (i := 22) (d := 35) (OP := Op.binOp BinOp.add 3 (Operand.tmp 34) (Operand.const (Value.int IntKind.i64 1)) 3) (T := 3) (v := ?v22) rfl rfl rfl rfl (by kernel_rfl) (by kernel_rfl) (by kernel_rfl) (fun _ _ _ h => h) (by rfl) ?h22 hHeld ?r22
    case h22 => (intro w' hSw; (try dsimp only at hSw); go_simp <;> with_reducible rfl)
    try simp only [Act.put, sI, sZ, sS]
    refine take_op (i := 23) (d := 36) (OP := Op.slice 93 (Operand.tmp 33) (some (Operand.tmp 35)) none none) (T := 93) (v := ?v23) rfl rfl rfl rfl (by kernel_rfl) (by kernel_rfl) (by kernel_rfl) (fun _ _ _ h => h) (by rfl) ?h23 hHeld ?r23
    case h23 => (intro w' hSw; (try dsimp only at hSw); go_simp <;> with_reducible rfl)
    try simp only [Act.put, sI, sZ, sS]
    refine call_op (i := 4) (d := 17) (OP := Op.call { callee := Callee.value (Operand.tmp 13), args := #[Operand.tmp 16], argTypes := #[93] }) (T := 41) (f := 47) (args := #[.slice (some ⟨g, o, none⟩) m cap, .pointer (some ⟨F, 0, none⟩), .pointer (some ⟨K, 0, none⟩), .pointer (some ⟨V, 0, none⟩)]) rfl rfl rfl rfl (by kernel_rfl) (by rfl) (by go_simp) ?_
    refine (HL1.out _ qd.2.2.2.2.2.2.out).mono ?_
    rintro e w1 ⟨t1, ⟨rfl, i1, b1⟩, l1, h1, B1, O1⟩
    have qw1 : w1.cell? ⟨F, 0, none⟩ = some (.func (.func 47) #[] #[.pointer (some ⟨F, 0, none⟩), .pointer (some ⟨K, 0, none⟩), .pointer (some ⟨V, 0, none⟩)]) ∧ w1.cell? ⟨K, 0, none⟩ = some (.slice (some ⟨kb, ko, none⟩) S kc) ∧ w1.cell? ⟨V, 0, none⟩ = some (.slice (some ⟨vb, vo, none⟩) S vc) ∧ w1.cell? ⟨g, o + m, none⟩ = some (.int .i64 (x : Nat)) ∧ w1.cell? ⟨kb, ko + x, none⟩ = some (.string kx) ∧ w1.cell? ⟨vb, vo + x, none⟩ = some (.string vx) ∧ Hid (Below wb.heap.size wb w1) := ⟨cell_stays qd.1 b1, cell_stays qd.2.1 b1, cell_stays qd.2.2.1 b1, cell_stays qd.2.2.2.1 b1, cell_stays qd.2.2.2.2.1 b1, cell_stays qd.2.2.2.2.2.1 b1, hide (qd.2.2.2.2.2.2.out.trans (b1.mono qd.2.2.2.2.2.2.out.size))⟩
    refine ⟨_, rfl, qw1, ?_⟩
    replace hHeld := qw1
    try simp only [Act.put, sI, sZ, sS]
    refine call_op (i := 24) (d := 37) (OP := Op.call { callee := Callee.value (Operand.tmp 32), args := #[Operand.tmp 36], argTypes := #[93] }) (T := 41) (f := 47) (args := #[.slice (some ⟨g, O, none⟩) (n - (m + 1)) (cap - (m + 1)), .pointer (some ⟨F, 0, none⟩), .pointer (some ⟨K, 0, none⟩), .pointer (some ⟨V, 0, none⟩)]) rfl rfl rfl rfl (by kernel_rfl) (by rfl) (by go_simp) ?_
    refine (HL2.out _ (qw1.2.2.2.2.2.2).out).mono ?_
    rintro e w2 ⟨t2, ⟨rfl, i2, b2⟩, l2, h2, B2, O2⟩
    have qw2 : w2.cell? ⟨F, 0, none⟩ = some (.func (.func 47) #[] #[.pointer (some ⟨F, 0, none⟩), .pointer (some ⟨K, 0, none⟩), .pointer (some ⟨V, 0, none⟩)]) ∧ w2.cell? ⟨K, 0, none⟩ = some (.slice (some ⟨kb, ko, none⟩) S kc) ∧ w2.cell? ⟨V, 0, none⟩ = some (.slice (some ⟨vb, vo, none⟩) S vc) ∧ w2.cell? ⟨g, o + m, none⟩ = some (.int .i64 (x : Nat)) ∧ w2.cell? ⟨kb, ko + x, none⟩ = some (.string kx) ∧ w2.cell? ⟨vb, vo + x, none⟩ = some (.string vx) ∧ Hid (Below wb.heap.size wb w2) := ⟨cell_stays qw1.1 b2, cell_stays qw1.2.1 b2, cell_stays qw1.2.2.1 b2, cell_stays qw1.2.2.2.1 b2, cell_stays qw1.2.2.2.2.1 b2, cell_stays qw1.2.2.2.2.2.1 b2, hide (qw1.2.2.2.2.2.2.out.trans (b2.mono qw1.2.2.2.2.2.2.out.size))⟩
    refine ⟨_, rfl, qw2, ?_⟩
    replace hHeld := qw2
    try simp only [Act.put, sI, sZ, sS]
    have HT := hide (And.intro l1 (And.intro h1 (And.intro B1 (And.intro l2 (And.intro h2 (And.intro B2 (T.over_node (p := w2.heap.size) (k := kx) (v := vx) (Nat.le_trans qw1.2.2.2.2.2.2.out.size b2.size) (O1.mono qd.2.2.2.2.2.2.out.size) (O2.mono qw1.2.2.2.2.2.2.out.size))))))))
    clear O1 O2
    have hns : t1.n + t2.n ≤ 1000000 := by rw [← T.n_eq, ← T.n_eq, l1, l2, List.length_map, List.length_map]; have := HN.out; rw [List.length_take, List.length_drop]; omega
    refine call_op (i := 25) (d := 38) (OP := Op.call { callee := Callee.value (Operand.func 48), args := #[Operand.tmp 17, Operand.tmp 24, Operand.tmp 31, Operand.tmp 37], argTypes := #[41, 9, 9, 41] }) (T := 41) (f := 48) (args := #[t1.ptr, .string kx, .string vx, t2.ptr]) rfl rfl rfl rfl (by kernel_rfl) (by rfl) (by go_simp) ?_
    refine (made_any t1 t2 kx vx w2 (In.below b2 i1) i2 hns).mono ?_
    rintro e w3 ⟨rfl, i3, b3⟩
    have qw3 : w3.cell? ⟨F, 0, none⟩ = some (.func (.func 47) #[] #[.pointer (some ⟨F, 0, none⟩), .pointer (some ⟨K, 0, none⟩), .pointer (some ⟨V, 0, none⟩)]) ∧ w3.cell? ⟨K, 0, none⟩ = some (.slice (some ⟨kb, ko, none⟩) S kc) ∧ w3.cell? ⟨V, 0, none⟩ = some (.slice (some ⟨vb, vo, none⟩) S vc) ∧ w3.cell? ⟨g, o + m, none⟩ = some (.int .i64 (x : Nat)) ∧ w3.cell? ⟨kb, ko + x, none⟩ = some (.string kx) ∧ w3.cell? ⟨vb, vo + x, none⟩ = some (.string vx) ∧ Hid (Below wb.heap.size wb w3) := ⟨cell_stays qw2.1 b3, cell_stays qw2.2.1 b3, cell_stays qw2.2.2.1 b3, cell_stays qw2.2.2.2.1 b3, cell_stays qw2.2.2.2.2.1 b3, cell_stays qw2.2.2.2.2.2.1 b3, hide (qw2.2.2.2.2.2.2.out.trans (b3.mono qw2.2.2.2.2.2.2.out.size))⟩
    refine ⟨_, rfl, qw3, ?_⟩
    replace hHeld := qw3
    try simp only [Act.put, sI, sZ, sS]
    refine take_op (i := 26) (d := 5) (OP := Op.assign (Operand.tmp 38)) (T := 41) (v := ?v24) rfl rfl rfl rfl (by kernel_rfl) (by kernel_rfl) (by kernel_rfl) (fun _ _ _ h => h) (by rfl) ?h24 hHeld ?r24
    case h24 => (intro w' hSw; (try dsimp only at hSw); go_simp <;> with_reducible rfl)
    try simp only [Act.put, sI, sZ, sS]
    refine wpAnyH_done (by kernel_rfl) ?_ _
    go_wp2
    go_ret
    obtain ⟨l1, h1, B1, l2, h2, B2, O3⟩ := HT.out
    obtain ⟨hpn, hn, hmn, hm, h0, hx⟩ := HN.out
    obtain ⟨e1, e2, e3⟩ := halves h0 hm
    refine ⟨_, ⟨rfl, i3, qw3.2.2.2.2.2.2.out⟩, ?_, ?_, ?_, O3⟩
    · rw [T.list, l1, l2, ← HE.out, ← List.map_cons, ← List.map_append]
      congr 1
      have hml : m < p.length := by omega
      have e4 : x = p[m] := by rw [List.getElem?_eq_getElem hml] at hx; exact (Option.some.inj hx).symm
      rw [e4, List.getElem_cons_drop, List.take_append_drop]
    · rw [T.h, h1, h2, e1]
    · exact ⟨by rw [h1, h2]; exact e2, by rw [h1, h2]; exact e3, B1, B2⟩
end Go.Proofs.YtkkpdgfllnbigaaGreatDoor.Pm
