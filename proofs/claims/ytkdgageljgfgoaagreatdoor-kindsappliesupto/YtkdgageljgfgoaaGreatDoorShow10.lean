/-
  kinds: Show 24, with slices.SortFunc 57 and slices.Compact 59 over texts.
  kinds: Show 24.
-/
import Derived.Test.YtkdgageljgfgoaaGreatDoorSame9
import Derived.Lib.RowBridge
namespace Go.Proofs.YtkdgageljgfgoaaGreatDoor
open Go.RowKit Go.Shelf Go.Sort
set_option linter.unusedSimpArgs false
attribute [local go_sem] Oper.semAt_some

theorem ordS_B : Rise.OrdS cmpB := ⟨ord_B.range, ord_B.anti, ord_B.eq, ord_B.trans⟩
/-- The texts that a set shows: each once, in order. -/
def setL (ts : List ByteArray) : List ByteArray := ts.foldl (fun l t => Rise.insU cmpB t l) []
/-- What a value shows. -/
def showL (k : Int) (l : List El) : List ByteArray := if k = 2 then setL (l.map Prod.snd) else l.map Prod.snd
def showV (k n : Int) (l : List El) : Int × List ByteArray × Int := if valB k n l = true then (n, showL k l, 0) else (0, [], 2)
/-- Texts in memory that is new from B on. -/
structure Nt (w : World) (B : Nat) (ao : Option Addr) (c : Nat) (l : List ByteArray) : Prop where
  rp : Rp w ao c l
  new : ∀ a, ao = some a → B ≤ a.block
def TxtE (w : World) (R : Int × List ByteArray × Int) (e : Ending) (w' : World) : Prop := ∃ a' c', e = .returned (.tuple #[.int .i64 R.1, .slice a' R.2.1.length c', .int .i64 R.2.2]) ∧ Nt w' w.heap.size a' c' R.2.1 ∧ Below w.heap.size w w'

/-- The slice value v owns the texts L, in a block from B on. -/
def Ot (w : World) (B : Nat) (v : Value) (L : List ByteArray) : Prop := w.ownsRow B 9 1 v L.length (L.map Value.string)
theorem Ot.nil (w : World) (B : Nat) : Ot w B (.slice none 0 0) [] := World.ownsRow_nil _ _ _ _
theorem Ot.alloc {w : World} {B : Nat} {v : Value} {L : List ByteArray} (h : Ot w B v L) (o : Obj) : Ot (w.alloc o) B v L := World.ownsRow.alloc h o
theorem Ot.shape {w : World} {B : Nat} {v : Value} {L : List ByteArray} (h : Ot w B v L) : (v = .slice none 0 0 ∧ L = []) ∨ ∃ g cap, v = .slice (some ⟨g, 0, none⟩) L.length cap ∧ B ≤ g ∧ g < w.heap.size ∧ L.length ≤ cap ∧ (∀ j, w.frozen? ⟨g, j, none⟩ = false) := by
  have hlt := World.ownsRow.lt h
  rcases h.2 with ⟨rfl, hn⟩ | ⟨g, cap, cur, rfl, hb, hg, hnc, rest⟩
  · exact .inl ⟨rfl, List.eq_nil_of_length_eq_zero hn⟩
  · exact .inr ⟨g, cap, rfl, hb, (hlt g rfl).2, hnc, fun j => frozen_of_row w g _ _ _ hg⟩
theorem Ot.cells {w : World} {B g n cap : Nat} {L : List ByteArray} (h : Ot w B (.slice (some ⟨g, 0, none⟩) n cap) L) {j : Nat} {s : ByteArray} (hj : L[j]? = some s) : w.cell? ⟨g, j, none⟩ = some (.string s) := by
  have := World.ownsRow.cells h (g := g) rfl j (.string s) (by simp [hj])
  rw [add_lit, Nat.zero_add] at this
  exact this
theorem info9t : (Tryz.prog.info? 9).map (fun i => (i.zero, i.size, i.bytes)) = some (some (.string ⟨#[]⟩), 1, 16) := by kernel_rfl
/-- One text more on what is owned. -/
theorem pushS {B G : Nat} {w w2 : World} {ao : Option Addr} {c : Nat} {p : List ByteArray} (y : ByteArray) (hG : w2.heap.size = G) (H : Hid (Below B w w2 ∧ Ot w2 B (.slice ao p.length c) p)) (hB : B ≤ w.heap.size) (hp : p.length ≤ 200000) {ops : Array Oper} {rest : List Oper} {o : Oper} {a : Act} {Q : Exit → Act → World → Prop} (hg : o.guard = none) (s t : Operand) (ho : o.op = .call { callee := .builtin .append, args := #[s, t], argTypes := #[22, 22] })
      (hs : a.eval s = .slice ao p.length c) (ht : a.eval t = .slice (some ⟨G, 0, none⟩) 1 1)
      (hk : ∀ ao' cap' w', Hid (Below B w w' ∧ Ot w' B (.slice ao' (p.length + 1) cap') (p ++ [y])) → wpList Tryz.prog ops Q rest (a.put o.dst (.slice ao' (p.length + 1) cap')) w') :
      wpList Tryz.prog ops Q (o :: rest) a (w2.alloc (.cells #[.string y] 9)) := by
  subst hG
  have hb2 := H.out.1
  have hO := H.out.2.alloc (.cells #[.string y] 9)
  have hbA : Below B w (w2.alloc (.cells #[.string y] 9)) := hb2.alloc (by have := hb2.size; omega) _
  have hcell := heap_alloc_new w2 (.cells #[.string y] 9)
  obtain ⟨i0, hi, hz0, hz1, hz2⟩ := info_of info9t
  refine wpList_append_own _ hg s t 22 ho B 9 i0 (.string ⟨#[]⟩) 1 16 Tryz.underlying22 hi hz0 hz1 hz2 rfl (by decide) _ _ _ hs hO ⟨w2.heap.size, 0, none⟩ 1 1 [.string y] ht (by simp) (fun j u hj => ?_) (fun u hu => by simp at hu; subst hu; rfl) (by unfold maxLen; omega) (by omega) (by simp; have := hb2.size; omega) ?_
  · rw [add_lit, cell_of_row _ _ (0 + j) #[.string y] 9 (0, 0) hcell, Nat.zero_add]; simpa using hj
  · intro v' w' hown' hgr _
    have hO' : Ot w' B v' (p ++ [y]) := by
      unfold Ot
      rw [List.map_append, List.length_append]
      exact hown'
    have hb : Below B w w' := hbA.grown hgr (by simp; have := hb2.size; omega) (fun k hk => by have := (World.ownsRow.lt hO k hk).1; omega)
    rcases hO'.shape with ⟨rfl, e⟩ | ⟨g, cap, rfl, _⟩
    · simp at e
    · rw [List.length_append] at hO' ⊢
      exact hk _ _ w' (hide ⟨hb, hO'⟩)

/-! What is sorted and compacted. -/
theorem compactUp_says {d : Array (List UInt8)} (hs : ∀ i j, i < j → j < d.size → Lib.compareBytes d[i]! d[j]! ≤ 0) (o : Rise.OrdS Lib.compareBytes) : ∀ m, m ≤ d.size → Rise.Up Lib.compareBytes id (Lib.compactUpTo d m) ∧ ∀ z, z ∈ Lib.compactUpTo d m ↔ ∃ j, j < m ∧ z = d[j]!
  | 0, _ => ⟨by simp [Lib.compactUpTo, Rise.Up], fun z => by simp [Lib.compactUpTo]⟩
  | m + 1, hm => by
    obtain ⟨i1, i2⟩ := compactUp_says hs o m (by omega)
    rw [Lib.compactUpTo_succ]
    by_cases hk : Lib.keeps d m = true
    · rw [if_pos hk]
      refine ⟨List.pairwise_append.2 ⟨i1, by simp, fun x hx y hy => ?_⟩, fun z => ?_⟩
      · have hyx : y = d[m]! := List.mem_singleton.1 hy
        subst hyx
        obtain ⟨j, hj, rfl⟩ := (i2 x).1 hx
        have hne : d[m]! ≠ d[m - 1]! := by
          have := of_decide_eq_true hk
          rcases this with h | h
          · omega
          · exact h
        have h1 : Lib.compareBytes d[m - 1]! d[m]! = -1 := by
          have h := hs (m - 1) m (by omega) (by omega)
          rcases o.range d[m - 1]! d[m]! with e | e | e
          · exact e
          · exact absurd (o.eq _ _ e).symm hne
          · omega
        by_cases hjm : j = m - 1
        · rw [hjm]; exact h1
        · have h := hs j (m - 1) (by omega) (by omega)
          rcases o.range d[j]! d[m - 1]! with e | e | e
          · exact o.trans _ _ _ e h1
          · rw [o.eq _ _ e]; exact h1
          · omega
      · rw [List.mem_append, i2, List.mem_singleton]
        constructor
        · rintro (⟨j, hj, rfl⟩ | rfl)
          · exact ⟨j, by omega, rfl⟩
          · exact ⟨m, by omega, rfl⟩
        · rintro ⟨j, hj, rfl⟩
          by_cases e : j = m
          · subst e; exact .inr rfl
          · exact .inl ⟨j, by omega, rfl⟩
    · rw [if_neg hk, List.append_nil]
      refine ⟨i1, fun z => (i2 z).trans ⟨fun ⟨j, hj, e⟩ => ⟨j, by omega, e⟩, ?_⟩⟩
      rintro ⟨j, hj, rfl⟩
      by_cases e : j = m
      · subst e
        have hk' : ¬ (j = 0 ∨ d[j]! ≠ d[j - 1]!) := fun h => hk (decide_eq_true h)
        rw [not_or, Classical.not_not] at hk'
        exact ⟨j - 1, by omega, hk'.2⟩
      · exact ⟨j, by omega, rfl⟩
theorem ordS_L : Rise.OrdS Lib.compareBytes := ⟨cb_range, cb_anti, cb_eq, cb_trans⟩
abbrev bytesOf (l : List UInt8) : ByteArray := ⟨l.toArray⟩
theorem set_is {ts : List ByteArray} {zs : List (List UInt8)} (hp : zs.Perm (ts.map (·.data.toList))) (hs : zs.Pairwise (fun x y => Lib.compareBytes x y ≤ 0)) : (Lib.compact zs).map bytesOf = setL ts := by
  have hs' : ∀ i j, i < j → j < zs.toArray.size → Lib.compareBytes zs.toArray[i]! zs.toArray[j]! ≤ 0 := by
    intro i j hij hj
    rw [getElem!_pos zs.toArray i (by omega), getElem!_pos zs.toArray j hj]
    exact List.pairwise_iff_getElem.1 hs i j (by simp at hj; omega) (by simpa using hj) hij
  obtain ⟨h1, h2⟩ := compactUp_says hs' ordS_L zs.toArray.size (Nat.le_refl _)
  obtain ⟨j1, j2⟩ := Rise.insU_all ordS_B ts [] List.Pairwise.nil
  refine Rise.Up.same (f := cmpB) (st := id) ordS_B ?_ j1 (fun z => ?_)
  · unfold Rise.Up
    rw [List.pairwise_map]
    exact h1
  · unfold setL
    rw [j2]
    simp only [List.not_mem_nil, or_false, List.mem_map]
    constructor
    · rintro ⟨x, hx, rfl⟩
      obtain ⟨j, hj, rfl⟩ := (h2 x).1 hx
      have : zs.toArray[j]! ∈ zs := by rw [getElem!_pos zs.toArray j hj]; simp
      obtain ⟨t, ht, e⟩ := List.mem_map.1 (hp.mem_iff.1 this)
      rw [← e]
      exact ht
    · intro hz
      have : z.data.toList ∈ zs := hp.mem_iff.2 (List.mem_map.2 ⟨z, hz, rfl⟩)
      obtain ⟨j, hj, e⟩ := List.getElem_of_mem this
      exact ⟨z.data.toList, (h2 _).2 ⟨j, by simpa using hj, by rw [getElem!_pos zs.toArray j (by simpa using hj)]; simpa using e.symm⟩, rfl⟩

theorem lt_L (x y : List UInt8) : ltOf Lib.compareBytes x y = true ↔ Lib.compareBytes x y = -1 := by
  have := cb_range x y
  unfold ltOf
  simp
  omega
theorem lt_Ln (x y : List UInt8) : ltOf Lib.compareBytes x y = false ↔ Lib.compareBytes x y ≠ -1 := by
  rw [Ne, ← lt_L]; simp
theorem swo_L : SWO (ltOf Lib.compareBytes) where
  irrefl x := by rw [lt_Ln, ordS_L.refl]; decide
  trans x y z h1 h2 := by rw [lt_L] at *; exact cb_trans _ _ _ h1 h2
  ntrans x y z h1 h2 := by
    rw [lt_Ln] at *
    intro h3
    rcases cb_range x y with h | h | h
    · exact h1 h
    · rw [cb_eq _ _ h] at h3; exact h2 h3
    · have : Lib.compareBytes y x = -1 := by rw [cb_anti, h]
      exact h2 (cb_trans _ _ _ this h3)
theorem only_sortedS (W : World) (G n : Nat) (d : Array (List UInt8)) (os : Array Obj) : Only (fun j => j = G) W (sortWorld encStr W G 0 n d os) := by
  have hheap : (sortWorld encStr W G 0 n d os).heap = W.heap.modify G (Sort.onCells (Sort.putCells encStr 0 d)) ++ os := rfl
  refine ⟨rfl, rfl, rfl, ?_, fun k hk hG => ?_⟩
  · rw [hheap]; simp
  · rw [hheap, Array.getElem?_append_left (by simpa using hk), Array.getElem?_modify, if_neg (fun e => hG e.symm)]
theorem only_putS (W : World) (G n : Nat) (d : Array (List UInt8)) : Only (fun j => j = G) W (putRow encStr (Sort.ahead W n) G 0 d) := by
  have hheap : (putRow encStr (Sort.ahead W n) G 0 d).heap = W.heap.modify G (Sort.onCells (Sort.putCells encStr 0 d)) := rfl
  refine ⟨rfl, rfl, rfl, ?_, fun k hk hG => ?_⟩
  · rw [hheap]; simp
  · rw [hheap, Array.getElem?_modify, if_neg (fun e => hG e.symm)]
/-- What a sort leaves in a row. -/
def SortsT (L : List ByteArray) (zs : List (List UInt8)) (W : World) (g : Nat) (w2 : World) : Prop := zs.length = L.length ∧ zs.Perm (L.map (·.data.toList)) ∧ zs.Pairwise (fun x y => Lib.compareBytes x y ≤ 0) ∧ Holds encStr w2 g 0 zs.toArray ∧ Only (fun j => j = g) W w2
theorem sortT_any {W : World} {B g cap : Nat} {L : List ByteArray} (h : Ot W B (.slice (some ⟨g, 0, none⟩) L.length cap) L) (hl : L.length ≤ 100000) : Calls Tryz.prog 57 #[.slice (some ⟨g, 0, none⟩) L.length cap, .func (.func 58) #[] #[]] W fun e w2 => e = .returned (.tuple #[]) ∧ ∃ zs, SortsT L zs W g w2 := by
  obtain ⟨hg, hfz⟩ : g < W.heap.size ∧ ∀ j, W.frozen? ⟨g, j, none⟩ = false := by
    rcases h.shape with ⟨e, _⟩ | ⟨g', cap', e, h1, h2, h3, h4⟩
    · cases e
    · cases e; exact ⟨h2, h4⟩
  have eg : ∀ args w, (callFunc 58 args).run Tryz.prog w = .ok (.enter 58 args) w := enters_of Tryz.func58 (by kernel_rfl) rfl
  have hH : Holds encStr W g 0 (L.map (·.data.toList)).toArray := by
    intro j hj
    have hj' : j < L.length := by simpa using hj
    refine ⟨?_, by rw [Nat.zero_add]; exact hfz j⟩
    rw [Nat.zero_add, h.cells (List.getElem?_eq_getElem hj'), getElem!_pos _ j hj]
    simp [encStr]
  have hc : CmpLays1 Tryz.prog 58 #[] encStr Lib.compareBytes g 0 (L.map (·.data.toList)).toArray.size W := fun m os dk hdk x y => by
    refine (cmp_any ⟨x.toArray⟩ ⟨y.toArray⟩ _).mono ?_
    rintro e w' ⟨he, hw⟩
    exact ⟨he, 0, #[], by rw [hw, Sort.grow_empty]; rfl⟩
  have hs := Tryz.slices_SortFunc encStr (fun _ => rfl) Lib.compareBytes swo_L 58 #[] g 0 cap (L.map (·.data.toList)).toArray W eg hc hH hg (by simp; omega)
  simp only [List.size_toArray, List.length_map] at hs
  refine hs.mono ?_
  rintro e w' ⟨he, d', n, os, hp, hso, rfl⟩
  have hsz : d'.size = L.length := by have := hp.1; simpa using this
  refine ⟨he, d'.toList, by simpa using hsz, ?_, ?_, ?_, only_sortedS W g n d' os⟩
  · have := hp.2.2
    rw [Array.extract_eq_self_of_le (by omega), Array.extract_eq_self_of_le (by simp)] at this
    simpa using this
  · rw [List.pairwise_iff_getElem]
    intro i j hi hj hij
    have h2 : j < L.length := by simpa [hsz] using hj
    have := hso i j (Nat.zero_le _) hij h2
    rw [getElem!_pos d' i (by omega), getElem!_pos d' j (by omega), lt_Ln] at this
    have h3 : Lib.compareBytes (d'[j]'(by omega)) (d'[i]'(by omega)) ≠ -1 := this
    have h4 := cb_anti (d'[i]'(by omega)) (d'[j]'(by omega))
    have h5 := cb_range (d'[j]'(by omega)) (d'[i]'(by omega))
    simp only [Array.getElem_toList]
    omega
  · have := holds_sortWorld encStr W g 0 n _ d' os hg hH (by simpa using hsz)
    simpa using this
theorem compactT_any {w : World} {g cap : Nat} {zs : List (List UInt8)} (h : Holds encStr w g 0 zs.toArray) (hl : zs.length ≤ 100000) (hc : zs.length ≤ cap) : Calls Tryz.prog 59 #[.slice (some ⟨g, 0, none⟩) zs.length cap] w fun e w' => e = .returned (.slice (some ⟨g, 0, none⟩) (Lib.compact zs).length cap) ∧ (∀ j s, ((Lib.compact zs).map bytesOf)[j]? = some s → w'.cell? ⟨g, j, none⟩ = some (.string s)) ∧ Only (fun j => j = g) w w' := by
  refine (Tryz.slices_Compact_string g 0 cap zs w h (by omega) hc).mono ?_
  rintro e w' ⟨he, q, rfl⟩
  refine ⟨he, fun j s hj => ?_, only_putS _ _ _ _⟩
  have hle := Lib.compact_length_le zs
  have hH := holds_putRow encStr (Sort.ahead w q) g 0 zs.toArray (Lib.compact zs ++ List.replicate (zs.length - (Lib.compact zs).length) []).toArray (holds_ahead encStr w q g 0 _ h) (by simp; omega)
  obtain ⟨x, hx, rfl⟩ : ∃ x, (Lib.compact zs)[j]? = some x ∧ bytesOf x = s := by simpa using hj
  have hjl := (List.getElem?_eq_some_iff.1 hx).1
  have := (hH j (by simp; omega)).1
  rw [Nat.zero_add] at this
  rw [this, getElem!_pos _ j (by simp; omega)]
  simp [List.getElem_append_left hjl]
  exact (List.getElem?_eq_some_iff.1 hx).2
end Go.Proofs.YtkdgageljgfgoaaGreatDoor
namespace Go.Proofs.YtkdgageljgfgoaaGreatDoor
open Go.RowKit Go.Shelf Go.Sort
set_option linter.unusedSimpArgs false
attribute [local go_sem] Oper.semAt_some

theorem Nt.own {w : World} {B B' : Nat} {ao : Option Addr} {n c : Nat} {l : List ByteArray} (h : Ot w B' (.slice ao n c) l) (hB : B ≤ B') (hl : l.length ≤ 100000) : Nt w B ao c l := by
  rcases h.shape with ⟨e, rfl⟩ | ⟨g, cap, e, h1, h2, h3, h4⟩
  · cases e
    exact ⟨⟨⟨fun _ => rfl, by simp⟩, by simp, fun _ => rfl, by simp⟩, by simp⟩
  · cases e
    exact ⟨⟨⟨by simp, fun a ha j s hj => by cases ha; rw [add_lit, Nat.zero_add]; exact h.cells hj⟩, h3, by simp, by omega⟩, fun a ha => by cases ha; exact Nat.le_trans hB h1⟩
/-- What stands behind a sort and a compaction. -/
def SetT (w : World) (L : List ByteArray) (ao : Option Addr) (c M : Nat) (w' : World) : Prop := M = (setL L).length ∧ Nt w' w.heap.size ao c (setL L) ∧ Below w.heap.size w w'
theorem sets_any {w wr : World} {B : Nat} {ao : Option Addr} {c : Nat} {L : List ByteArray} (hB : w.heap.size ≤ B) (hBr : B ≤ wr.heap.size) (hb : Below w.heap.size w wr) (h : Ot wr B (.slice ao L.length c) L) (hl : L.length ≤ 100000) :
    Calls Tryz.prog 57 #[.slice ao L.length c, .func (.func 58) #[] #[]] wr fun e w2 => e = .returned (.tuple #[]) ∧ Hid (Only (fun j => B ≤ j) wr w2 ∧ Calls Tryz.prog 59 #[.slice ao L.length c] w2 fun e w3 => ∃ M, e = .returned (.slice ao M c) ∧ Hid (Only (fun j => B ≤ j) w2 w3 ∧ SetT w L ao c M w3)) := by
  rcases h.shape with ⟨e, hn⟩ | ⟨g, cap, e, h1, h2, h3, h4⟩
  · injection e with e1 e2 e3
    subst e1 e3
    rw [e2]
    refine (Tryz.slices_SortFunc_none (α := Nat) none 0 (.func (.func 58) #[] #[]) wr).mono ?_
    rintro e w2 ⟨rfl, rfl⟩
    refine ⟨rfl, hide ⟨Only.refl _ _, (Tryz.slices_Compact_string_empty none 0 w2).mono ?_⟩⟩
    rintro e w3 ⟨rfl, rfl⟩
    refine ⟨0, rfl, hide ⟨Only.refl _ _, ?_⟩⟩
    rw [hn]
    exact ⟨rfl, ⟨⟨⟨fun _ => rfl, by simp [setL]⟩, by simp [setL], fun _ => rfl, by simp [setL]⟩, by simp⟩, hb⟩
  · injection e with e1 e2 e3
    subst e1 e3
    refine (sortT_any h hl).mono ?_
    rintro e w2 ⟨rfl, zs, hz⟩
    obtain ⟨z1, z2, z3, z4, z5⟩ := hz
    refine ⟨rfl, hide ⟨z5.mono (fun j _ e => by rw [e]; exact h1), ?_⟩⟩
    have hc := compactT_any (cap := c) z4 (by omega) (by omega)
    rw [z1] at hc
    refine hc.mono ?_
    rintro e w3 ⟨rfl, c1, c2⟩
    have hset := set_is z2 z3
    have hlen : (setL L).length = (Lib.compact zs).length := by rw [← hset]; simp
    refine ⟨_, rfl, hide ⟨c2.mono (fun j _ e => by rw [e]; exact h1), hlen.symm, ⟨⟨⟨by simp, fun a ha j s hj => ?_⟩, ?_, by simp, ?_⟩, fun a ha => by cases ha; exact Nat.le_trans hB h1⟩, ?_⟩⟩
    · cases ha
      rw [add_lit, Nat.zero_add]
      rw [← hset] at hj
      exact c1 j s hj
    · rw [hlen]; have := Lib.compact_length_le zs; omega
    · rw [hlen]; have := Lib.compact_length_le zs; omega
    · have hb2 := Below.only hb z5 hb.size (fun j e => by omega)
      exact Below.only hb2 c2 hb2.size (fun j e => by omega)

set_option maxHeartbeats 8000000 in
set_option maxRecDepth 100000 in
theorem show_any {w : World} (k n : Int) {ao : Option Addr} {c : Nat} {l : List El} (h : Rv w ao c l) (hl : l.length ≤ 90000) : Calls Tryz.prog 24 #[vv k n ao l.length c] w (TxtE w (showV k n l)) := by
  obtain ⟨N, hN⟩ : ∃ N, N = l.length := ⟨_, rfl⟩
  obtain ⟨w1, hw1⟩ : ∃ w1, w1 = w.alloc (.cells #[.int .i64 k, .int .i64 n, .slice ao N c] 46) := ⟨_, rfl⟩
  have b1 : Below w.heap.size w w1 := by rw [hw1]; exact (Below.refl _ w).alloc (Nat.le_refl _) _
  have m0 := heap_alloc_new w (.cells #[.int .i64 k, .int .i64 n, .slice ao N c] 46)
  rw [← hw1] at m0
  have h1 := h.below b1
  have k25 := value_any k n h1 (by omega)
  have hap : showV k n l = if valB k n l = true then (n, showL k l, 0) else (0, [], 2) := rfl
  rw [hap]
  rw [← hN] at k25 hl ⊢
  generalize valB k n l = V at *
  obtain ⟨X, hX⟩ : ∃ X, X = w.heap.size := ⟨_, rfl⟩
  rw [← hX] at m0
  have HW := hide (And.intro hw1 (And.intro b1 (And.intro m0 (And.intro hN (And.intro hX h1.re)))))
  clear h h1 hap hN m0 b1 hw1 hX
  cases V
  · rw [if_neg (by decide)]
    go_enter Tryz.func24, Tryz.ntmps24
    go_upto_region 1 with fail
    have e1 := HW.out.1
    have e2 := HW.out.2.2.2.2.1
    rw [← e1, ← e2]
    clear e1 e2
    obtain ⟨x0, x1, x2⟩ : w1.cell? ⟨X, 0, none⟩ = some (.int .i64 k) ∧ w1.cell? ⟨X, 1, none⟩ = some (.int .i64 n) ∧ w1.cell? ⟨X, 2, none⟩ = some (.slice ao N c) := ⟨(cell_of_row _ _ 0 _ 46 (0, 0) HW.out.2.2.1).trans rfl, (cell_of_row _ _ 1 _ 46 (0, 0) HW.out.2.2.1).trans rfl, (cell_of_row _ _ 2 _ 46 (0, 0) HW.out.2.2.1).trans rfl⟩
    go_wp2_with (go_at_call 25; refine k25.mono ?_; rintro e w2 ⟨rfl, b2⟩; have H2 := hide b2; clear b2)
    go_ret3
    exact ⟨none, 0, rfl, ⟨⟨⟨fun _ => rfl, by simp⟩, by simp, fun _ => rfl, by simp⟩, by simp⟩, HW.out.2.1.trans (H2.out.mono HW.out.2.1.size)⟩
  · rw [if_pos rfl]
    go_enter Tryz.func24, Tryz.ntmps24
    go_upto_region 1 with fail
    have e1 := HW.out.1
    have e2 := HW.out.2.2.2.2.1
    rw [← e1, ← e2]
    clear e1 e2
    obtain ⟨x0, x1, x2⟩ : w1.cell? ⟨X, 0, none⟩ = some (.int .i64 k) ∧ w1.cell? ⟨X, 1, none⟩ = some (.int .i64 n) ∧ w1.cell? ⟨X, 2, none⟩ = some (.slice ao N c) := ⟨(cell_of_row _ _ 0 _ 46 (0, 0) HW.out.2.2.1).trans rfl, (cell_of_row _ _ 1 _ 46 (0, 0) HW.out.2.2.1).trans rfl, (cell_of_row _ _ 2 _ 46 (0, 0) HW.out.2.2.1).trans rfl⟩
    have up : ∀ W, Below w1.heap.size w1 W → W.cell? ⟨X, 0, none⟩ = some (.int .i64 k) ∧ W.cell? ⟨X, 1, none⟩ = some (.int .i64 n) ∧ W.cell? ⟨X, 2, none⟩ = some (.slice ao N c) := fun W hW => ⟨cell_stays x0 hW, cell_stays x1 hW, cell_stays x2 hW⟩
    replace up := hide up
    go_upto_region 4 with (go_at_call 25; refine k25.mono ?_; rintro e w2 ⟨rfl, b2⟩; have H2 := hide b2; clear b2)
    clear x0 x1 x2
    obtain ⟨x0, x1, x2⟩ := up.out w2 H2.out
    go_wp2
    go_loopw [5, 14] (fun s iv wr => ∃ (q : Nat) (p : List ByteArray) (bo : Option Addr) (d : Nat), q ≤ N ∧ p.length ≤ q ∧ iv = .int .i64 q ∧ s = .slice bo p.length d ∧ Hid (p = (l.take q).map Prod.snd ∧ Below w1.heap.size w1 wr ∧ Ot wr w1.heap.size (.slice bo p.length d) p)) (fun _ iv _ => N - (intOf iv).toNat)
    case atStart => exact ⟨0, [], none, 0, Nat.zero_le _, Nat.le_refl _, rfl, rfl, hide ⟨rfl, H2.out, Ot.nil _ _⟩⟩
    case round =>
      obtain ⟨q, p, bo, d, hq, hpq, rfl, rfl, hP⟩ := hrel
      clear x0 x1 x2
      by_cases hlt : q < N
      · have d1 : decide (q < N) = true := by simpa using hlt
        have d1' : (q : Int) < (N : Int) := by omega
        obtain ⟨x, hx⟩ : ∃ x, l[q]? = some x := ⟨_, List.getElem?_eq_getElem (by rw [← HW.out.2.2.2.1]; exact hlt)⟩
        have hre := HW.out.2.2.2.2.2.below hP.out.2.1
        obtain ⟨bk, off, hao, q0, q1, q2, q3, q4, q5⟩ := hre.cells hx
        have HX := hide hx
        subst hao
        obtain ⟨⟨g, r, l0, n0, i0⟩, t0⟩ := x
        dsimp only at q0 q1 q2 q3 q4 q5
        have H4 : Hid (Below w1.heap.size w1 (wr.alloc (.cells #[.int .i64 g, .int .i64 r, .string l0, .int .i64 n0, .int .i64 i0, .string t0] 77)) ∧ Ot (wr.alloc (.cells #[.int .i64 g, .int .i64 r, .string l0, .int .i64 n0, .int .i64 i0, .string t0] 77)) w1.heap.size (.slice bo p.length d) p) := hide ⟨hP.out.2.1.alloc hP.out.2.1.size _, hP.out.2.2.alloc _⟩
        clear hre hx
        go_wp2_with (refine pushS (G := wr.heap.size + 1) t0 (by simp) H4 (Nat.le_refl _) (by omega) rfl _ _ rfl rfl rfl ?_; intro a5 c5 w5 H5)
        go_roundw
        case rel => exact ⟨q + 1, p ++ [t0], a5, c5, by omega, by rw [List.length_append]; simp; omega, by go_num, by rw [List.length_append]; rfl, hide ⟨by rw [hP.out.1, List.take_add_one, HX.out, List.map_append]; rfl, H5.out.1, by rw [List.length_append]; exact H5.out.2⟩⟩
        case measure => simp [intOf]; omega
      · obtain rfl : q = N := by omega
        have d1 : decide (q < q) = false := by simp
        have hp : p = l.map Prod.snd := by have := hP.out.1; rwa [HW.out.2.2.2.1, List.take_length] at this
        obtain ⟨x0, x1, x2⟩ := up.out wr hP.out.2.1
        have hbw := HW.out.2.1.trans (hP.out.2.1.mono HW.out.2.1.size)
        have hs1 : w1.heap.size = w.heap.size + 1 := by rw [HW.out.1]; simp
        by_cases hk : k = 2
        · have hS := sets_any (by omega) hP.out.2.1.size hbw hP.out.2.2 (by omega)
          have HX := hide (And.intro hp (And.intro hbw hs1))
          clear hp hbw hs1
          have HK := hide hk
          subst hk
          go_wp2_with (first
            | (go_at_call 57; refine hS.mono ?_; rintro e w5 ⟨rfl, H5⟩; have k59 := H5.out.2; clear x0 x1 x2 hS)
            | (go_at_call 59; refine k59.mono ?_; rintro e w6 ⟨M, rfl, H6⟩; clear k59; obtain ⟨x0, x1, x2⟩ := up.out w6 (Below.only (Below.only hP.out.2.1 H5.out.1 hP.out.2.1.size (fun j e => e)) H6.out.1 (Nat.le_trans hP.out.2.1.size H5.out.1.size) (fun j e => e))))
          go_ret3
          refine ⟨bo, d, ?_, ?_, H6.out.2.2.2⟩
          · have : showL 2 l = setL p := by unfold showL; rw [if_pos rfl, HX.out.1]
            rw [this, ← H6.out.2.1]; rfl
          · have : showL 2 l = setL p := by unfold showL; rw [if_pos rfl, HX.out.1]
            rw [this]; exact H6.out.2.2.1
        · have ek : (k == 2) = false := by simpa using hk
          have hsh : showL k l = p := by unfold showL; rw [if_neg hk, hp]
          have HX := hide (And.intro hsh (And.intro hbw hs1))
          clear hp hbw hs1 hsh
          go_wp2
          go_ret3
          exact ⟨bo, d, by rw [HX.out.1]; rfl, by rw [HX.out.1]; exact Nt.own hP.out.2.2 (by have := HX.out.2.2; omega) (by dsimp only; omega), HX.out.2.1⟩
end Go.Proofs.YtkdgageljgfgoaaGreatDoor
