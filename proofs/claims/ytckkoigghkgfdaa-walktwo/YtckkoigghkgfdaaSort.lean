/-
  SORTED PLACES: slices.SortFunc at []int, with the closure of rising.
-/
import Derived.Test.YtckkoigghkgfdaaLayS
import Derived.Test.YtckkoigghkgfdaaMaps3
namespace Go.Proofs.Ytckkoigghkgfdaa
open Go.RowKit Go.Shelf
set_option linter.unusedSimpArgs false

set_option maxHeartbeats 2000000 in
theorem closure64 (x y N B b off cap : Nat) (kx ky : ByteArray) (W : World) (hbox : W.cell? ⟨B, 0, none⟩ = some (.slice (some ⟨b, off, none⟩) N cap)) (h1 : W.cell? ⟨b, off + x, none⟩ = some (.string kx)) (h2 : W.cell? ⟨b, off + y, none⟩ = some (.string ky)) (hx : x < N) (hy : y < N) :
    Calls Try.prog 60 #[.int .i64 x, .int .i64 y, .pointer (some ⟨B, 0, none⟩)] W fun e w' => e = .returned (.int .i64 (cmpB kx ky)) ∧ ∃ q, w' = W.drewN q := by
  have hc := fun W => compare_B kx ky W
  generalize cmpB kx ky = C at *
  have z1 : (x : Int) < (N : Int) := by omega
  have z2 : (y : Int) < (N : Int) := by omega
  go_enter Try.func60, Try.ntmps60
  go_wp2
  go_quiet (first | (go_at_call 49; refine Calls.quiet_of_same (hc _)))
  go_wp2
  go_ret
  exact ⟨rfl, _, rfl⟩

def encP {M : Nat} (x : Fin (M + 1)) : Value := .int .i64 (x.val : Nat)
theorem lt_B {M : Nat} (ks : Fin (M + 1) → ByteArray) (x y : Fin (M + 1)) : ltOf (fun x y => cmpB (ks x) (ks y)) x y = true ↔ cmpB (ks x) (ks y) = -1 := by
  have := ord_B.range (ks x) (ks y)
  unfold ltOf
  simp
  omega
theorem lt_Bn {M : Nat} (ks : Fin (M + 1) → ByteArray) (x y : Fin (M + 1)) : ltOf (fun x y => cmpB (ks x) (ks y)) x y = false ↔ cmpB (ks x) (ks y) ≠ -1 := by
  rw [Ne, ← lt_B]; simp
theorem swo_B {M : Nat} (ks : Fin (M + 1) → ByteArray) : Sort.SWO (ltOf (fun x y => cmpB (ks x) (ks y))) := ⟨fun x => by rw [lt_Bn, ord_B.refl]; decide, fun x y z h1 h2 => by rw [lt_B] at *; exact ord_B.trans _ _ _ h1 h2, fun x y z h1 h2 => by
    rw [lt_Bn] at *
    intro h3
    rcases ord_B.range (ks x) (ks y) with h | h | h
    · exact h1 h
    · rw [ord_B.eq _ _ h] at h3; exact h2 h3
    · have : cmpB (ks y) (ks x) = -1 := by rw [ord_B.anti, h]
      exact h2 (ord_B.trans _ _ _ this h3)⟩
theorem only_sorted {M : Nat} (W : World) (G n : Nat) (d : Array (Fin (M + 1))) (os : Array Obj) : Only (fun j => j = G) W (sortWorld encP W G 0 n d os) := by
  have hheap : (sortWorld encP W G 0 n d os).heap = W.heap.modify G (Sort.onCells (Sort.putCells encP 0 d)) ++ os := rfl
  refine ⟨rfl, rfl, rfl, ?_, fun k hk hG => ?_⟩
  · rw [hheap]; simp
  · rw [hheap, Array.getElem?_append_left (by simpa using hk), Array.getElem?_modify, if_neg (fun e => hG e.symm)]

theorem sort63 (M : Nat) (ks : Fin (M + 1) → ByteArray) (B G b off cap kcap : Nat) (d : Array (Fin (M + 1))) (hd : d.size = M + 1) (W : World) (hbox : W.cell? ⟨B, 0, none⟩ = some (.slice (some ⟨b, off, none⟩) (M + 1) kcap)) (hk : ∀ x : Fin (M + 1), W.cell? ⟨b, off + x.val, none⟩ = some (.string (ks x))) (hBG : B ≠ G) (hbG : b ≠ G) (hH : Sort.Holds encP W G 0 d) (hM : M < 1000000) :
    Calls Try.prog 59 #[.slice (some ⟨G, 0, none⟩) (M + 1) cap, .func (.func 60) #[] #[.pointer (some ⟨B, 0, none⟩)]] W fun e w' => e = .returned (.tuple #[]) ∧ ∃ d' : Array (Fin (M + 1)), d'.size = M + 1 ∧ d'.toList.Perm d.toList ∧ (∀ i j, i < j → j < M + 1 → cmpB (ks d'[j]!) (ks d'[i]!) ≠ -1) ∧ Sort.Holds encP w' G 0 d' ∧ Only (fun j => j = G) W w' := by
  have eg : ∀ args w, (callFunc 60 args).run Try.prog w = .ok (.enter 60 args) w := enters_of Try.func60 (by kernel_rfl) rfl
  have hblk : G < W.heap.size := by
    have := (hH 0 (by omega)).1
    exact World.block_lt_of_cell? W _ this
  have hc : CmpLays1 Try.prog 60 #[.pointer (some ⟨B, 0, none⟩)] encP (fun x y => cmpB (ks x) (ks y)) G 0 d.size W := fun m os dk hdk x y => by
    have ho := only_sorted W G m dk os
    refine (closure64 x.val y.val (M + 1) B b off kcap (ks x) (ks y) (sortWorld encP W G 0 m dk os) (ho.cell hbox hBG) (ho.cell (hk x) hbG) (ho.cell (hk y) hbG) x.isLt y.isLt).mono ?_
    rintro e w' ⟨he, q, hw⟩
    exact ⟨he, q, #[], by rw [hw, Sort.grow_empty]⟩
  have hs := Any.slices_SortFunc Try.sortInts encP (fun _ => rfl) (fun x y => cmpB (ks x) (ks y)) (swo_B ks) 60 #[.pointer (some ⟨B, 0, none⟩)] G 0 cap d W eg hc hH hblk (by omega)
  change Calls Try.prog 59 _ _ _ at hs
  rw [hd] at hs
  refine hs.mono ?_
  rintro e w' ⟨he, d', n, os, hp, hso, rfl⟩
  have hsz : d'.size = M + 1 := hp.1.trans hd
  refine ⟨he, d', hsz, ?_, ?_, holds_sortWorld encP W G 0 n d d' os hblk hH hp.1, only_sorted W G n d' os⟩
  · have := hp.2.2
    have ex : ∀ (a : Array (Fin (M + 1))) n, a.size = n → a.extract 0 n = a := by intro a n h; subst h; simp
    rw [ex d' _ hsz, ex d _ hd] at this
    exact this
  · intro i j hij hj
    have := hso i j (Nat.zero_le _) hij hj
    rw [lt_Bn] at this
    exact this
end Go.Proofs.Ytckkoigghkgfdaa
