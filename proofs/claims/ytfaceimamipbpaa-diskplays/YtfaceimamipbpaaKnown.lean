/-
  WALKS: disks seen from a number of blocks on; the document's own rows ('known').
-/
import Derived.Test.YtfaceimamipbpaaCut
namespace Go.Proofs.Ytfaceimamipbpaa
open Go.RowKit Go.Shelf
set_option linter.unusedSimpArgs false

/-- A disk that writes no block below B. -/
def PN (B : Nat) (w : World) (R : Nat) (cap : Int) (beg : St) (log : List Wr) : Prop := ∃ F G, PD F G w R cap beg log ∧ ∀ k, F k → B ≤ k
section
variable {B : Nat} {w w' : World} {R : Nat} {cap : Int} {beg : St} {log : List Wr}
theorem PN.below (h : PN B w R cap beg log) (k : Below w.heap.size w w') : PN B w' R cap beg log := by
  obtain ⟨F, G, h1, h2⟩ := h
  exact ⟨F, G, h1.below k, h2⟩
theorem PN.drewN (h : PN B w R cap beg log) (n : Nat) : PN B (w.drewN n) R cap beg log := h.below (below_drew w n)
theorem PN.fits (h : PN B w R cap beg log) : Fits cap beg log := by obtain ⟨F, G, h1, _⟩ := h; exact h1.fits
theorem PN.next {F G : Nat → Prop} {log' : List Wr} (hF : ∀ k, F k → B ≤ k) (hB : B ≤ w.heap.size) (h : Next F G w R cap beg log' w') : PN B w' R cap beg log' ∧ Below B w w' := by
  obtain ⟨F', G', h1, h2, h3, _⟩ := h
  refine ⟨⟨F', G', h1, fun k hk => ?_⟩, h2.below hB hF⟩
  rcases h3 k hk with q | q
  · exact hF k q
  · omega
theorem PN.lay (h : PN B w R cap beg log) (hB : B ≤ w.heap.size) (ar : Int) (ao : Option Addr) (c : Nat) (l : List Int) (hr : Rd w ao l) (hn : ao = none → c = 0) (hu : U8 l) (hl : l.length ≤ 140737488355328) (hlog : log.length < 1000000) :
    Calls Try.prog 13 #[.pointer (some ⟨R, 0, none⟩), .int .i64 ar, .slice ao l.length c] w fun e w' => e = .returned (.int .i64 (layE cap (plays beg log) ar l)) ∧ PN B w' R cap beg (layL cap (plays beg log) ar l log) ∧ Below B w w' := by
  obtain ⟨F, G, h1, h2⟩ := h
  refine (lay_call h1 ar ao c l hr hn hu hl hlog).mono ?_
  rintro e w' ⟨he, hx⟩
  exact ⟨he, PN.next h2 hB hx⟩
theorem PN.clear (h : PN B w R cap beg log) (hB : B ≤ w.heap.size) (ar : Int) (hlog : log.length < 1000000) :
    Calls Try.prog 14 #[.pointer (some ⟨R, 0, none⟩), .int .i64 ar] w fun e w' => e = .returned (.int .i64 (clearE ar)) ∧ PN B w' R cap beg (clearL ar log) ∧ Below B w w' := by
  obtain ⟨F, G, h1, h2⟩ := h
  refine (clear_call h1 ar hlog).mono ?_
  rintro e w' ⟨he, hx⟩
  exact ⟨he, PN.next h2 hB hx⟩
theorem PN.turn (h : PN B w R cap beg log) (hB : B ≤ w.heap.size) (hlog : log.length < 1000000) :
    Calls Try.prog 15 #[.pointer (some ⟨R, 0, none⟩)] w fun e w' => e = .returned (.int .i64 0) ∧ PN B w' R cap beg (log ++ [⟨3, 0, []⟩]) ∧ Below B w w' := by
  obtain ⟨F, G, h1, h2⟩ := h
  refine (turn_call h1 hlog).mono ?_
  rintro e w' ⟨he, hx⟩
  exact ⟨he, PN.next h2 hB hx⟩
theorem PN.room (h : PN B w R cap beg log) (i : Int) (hi : i = 0 ∨ i = 1) : Calls Try.prog 22 #[.pointer (some ⟨R, 0, none⟩), .int .i64 i] w fun e w' => e = .returned (.int .i64 (cap - (((plays beg log).at i).length : Nat))) ∧ ∃ n, w' = w.drewN n := by
  obtain ⟨F, G, h1, h2⟩ := h
  exact room_yes h1 i hi
theorem PN.used (h : PN B w R cap beg log) : Calls Try.prog 23 #[.pointer (some ⟨R, 0, none⟩)] w fun e w' => e = .returned (.int .i64 (plays beg log).u) ∧ w = w' := by
  obtain ⟨F, G, h1, h2⟩ := h
  exact used_any h1
theorem PN.writes (h : PN B w R cap beg log) : Calls Try.prog 19 #[.pointer (some ⟨R, 0, none⟩)] w fun e w' => e = .returned (.int .i64 log.length) ∧ w = w' := by
  obtain ⟨F, G, h1, h2⟩ := h
  exact writes_any h1
theorem PN.area (h : PN B w R cap beg log) (i : Int) (hi : i = 0 ∨ i = 1) : Calls Try.prog 24 #[.pointer (some ⟨R, 0, none⟩), .int .i64 i] w fun e w' =>
    ∃ ao c, e = .returned (.tuple #[.slice ao ((plays beg log).at i).length c, .int .i64 0]) ∧ Own 5 w' w.heap.size (.slice ao ((plays beg log).at i).length c) ((plays beg log).at i) ∧ (ao = none → c = 0) ∧ Below w.heap.size w w' := by
  obtain ⟨F, G, h1, h2⟩ := h
  exact area_yes h1 i hi
theorem PN.cut (h : PN B w R cap beg log) (n : Nat) (hn : n ≤ log.length) (hll : log.length < 1000000) :
    Calls Try.prog 17 #[.pointer (some ⟨R, 0, none⟩), .int .i64 n] w fun e w' => ∃ C, e = .returned (.tuple #[.pointer (some ⟨C, 0, none⟩), .int .i64 0]) ∧ PN w.heap.size w' C cap beg (log.take n) ∧ Below w.heap.size w w' := by
  obtain ⟨F, G, h1, h2⟩ := h
  refine (cut_yes h1 n hn hll).mono ?_
  rintro e w' ⟨C, Fc, Gc, he, hP, hF, _, hb⟩
  exact ⟨C, he, ⟨Fc, Gc, hP, hF⟩, hb⟩
theorem PN.cutno (h : PN B w R cap beg log) (n : Int) (hn : n < 0 ∨ (log.length : Int) < n) :
    Calls Try.prog 17 #[.pointer (some ⟨R, 0, none⟩), .int .i64 n] w fun e w' => e = .returned (.tuple #[.pointer none, .int .i64 2]) ∧ Below w.heap.size w w' := by
  obtain ⟨F, G, h1, h2⟩ := h
  exact cut_no h1 n hn
theorem PN.same {B' A : Nat} {beg' : St} {log' : List Wr} (hA : PN B w R cap beg log) (hB : PN B' w A cap beg' log') (hs : plays beg log = plays beg' log') :
    Calls Try.prog 18 #[.pointer (some ⟨R, 0, none⟩), .pointer (some ⟨A, 0, none⟩)] w fun e w' => e = .returned (.bool true) ∧ ∃ n, w' = w.drewN n := by
  obtain ⟨F, G, h1, h2⟩ := hA
  obtain ⟨F', G', k1, k2⟩ := hB
  exact same_yes h1 k1 hs
theorem PN.ofYes (cap u : Int) (x0 x1 : Option Addr) (c0 c1 : Nat) (l0 l1 : List Int) (w : World) (he : ofE cap u l0 l1 = 0) (r0 : Rd w x0 l0) (r1 : Rd w x1 l1) (n0 : x0 = none → c0 = 0) (n1 : x1 = none → c1 = 0) (u0 : U8 l0) (u1 : U8 l1) :
    Calls Try.prog 8 #[.int .i64 cap, .int .i64 u, .slice x0 l0.length c0, .slice x1 l1.length c1] w fun e w' => ∃ R, e = .returned (.tuple #[.pointer (some ⟨R, 0, none⟩), .int .i64 0]) ∧ PN w.heap.size w' R cap ⟨l0, l1, u⟩ [] ∧ Below w.heap.size w w' := by
  refine (of_yes cap u x0 x1 c0 c1 l0 l1 w he r0 r1 n0 n1 u0 u1).mono ?_
  rintro e w' ⟨R, F, G, h1, h2, h3, _, h5⟩
  exact ⟨R, h1, ⟨F, G, h2, h3⟩, h5⟩
theorem PN.new (cap : Int) (w : World) (hp : 0 < cap) (hm : cap ≤ 1048576) : Calls Try.prog 21 #[.int .i64 cap] w fun e w' => ∃ R, e = .returned (.tuple #[.pointer (some ⟨R, 0, none⟩), .int .i64 0]) ∧ PN w.heap.size w' R cap ⟨[], [], 0⟩ [] ∧ Below w.heap.size w w' := by
  refine (new_yes cap w hp hm).mono ?_
  rintro e w' ⟨R, F, G, h1, h2, h3, _, h5⟩
  exact ⟨R, h1, ⟨F, G, h2, h3⟩, h5⟩
/-- Bytes that stand in the text, laid on a disk. -/
theorem PN.layLit (h : PN B w R cap beg log) (hB : B ≤ w.heap.size) (ar : Int) (l : List Int) (hu : U8 l) (hl : l.length ≤ 1000) (hlog : log.length < 1000000) :
    Calls Try.prog 13 #[.pointer (some ⟨R, 0, none⟩), .int .i64 ar, .slice (some ⟨w.heap.size, 0, none⟩) l.length l.length] (w.alloc (.cells (u8s l).toArray 5)) fun e w' => e = .returned (.int .i64 (layE cap (plays beg log) ar l)) ∧ PN B w' R cap beg (layL cap (plays beg log) ar l log) ∧ Below B w w' := by
  have hb : Below w.heap.size w (w.alloc (.cells (u8s l).toArray 5)) := (Below.refl _ w).alloc (Nat.le_refl _) _
  refine ((h.below hb).lay (by simp; omega) ar (some ⟨w.heap.size, 0, none⟩) l.length l (rd_lit w l 5 (0, 0)) (by simp) hu (by omega) hlog).mono ?_
  rintro e w' ⟨h1, h2, h3⟩
  exact ⟨h1, h2, (hb.mono hB).trans h3⟩
end

set_option maxHeartbeats 2000000 in
set_option maxRecDepth 100000 in
/-- The document's own rows. -/
theorem known_any (w : World) : Calls Try.prog 6 #[] w fun e w' => e = .returned (.bool true) ∧ Below w.heap.size w w' := by
  have hse : (strOfNums [1, 2, 3]).toList = [1, 2, 3] := by
    rw [ByteArray.toList_eq, strOfNums_data]
    rfl
  have t1 : True := trivial
  have t2 : True := trivial
  have t3 : True := trivial
  have s1 : True := trivial
  have s2 : True := trivial
  go_enter Try.func6, Try.ntmps6
  go_wp2_with (first
    | (go_at_call 21; refine (PN.new 5 w (by decide) (by decide)).mono ?_; rintro e w1 ⟨R, rfl, p1, b1⟩)
    | (go_at_call 13; clear t1; refine (p1.layLit b1.size 0 [1, 2, 3] (U8.lit rfl) (by decide) (by decide)).mono ?_; rintro e w2 ⟨he, p2, b2⟩; obtain rfl : e = .returned (.int .i64 0) := he; replace b2 := b1.trans b2; replace p2 : PN w.heap.size w2 R 5 ⟨[], [], 0⟩ [⟨1, 0, [1, 2, 3]⟩] := p2)
    | (go_at_call 13; clear t2; refine (p2.layLit b2.size 0 [4, 5, 6] (U8.lit rfl) (by decide) (by decide)).mono ?_; rintro e w3 ⟨he, p3, b3⟩; obtain rfl : e = .returned (.int .i64 8) := he; replace b3 := b2.trans b3; replace p3 : PN w.heap.size w3 R 5 ⟨[], [], 0⟩ [⟨1, 0, [1, 2, 3]⟩] := p3)
    | (go_at_call 13; clear t3; refine (p3.layLit b3.size 2 [1] (U8.lit rfl) (by decide) (by decide)).mono ?_; rintro e w4 ⟨he, p4, b4⟩; obtain rfl : e = .returned (.int .i64 2) := he; replace b4 := b3.trans b4; replace p4 : PN w.heap.size w4 R 5 ⟨[], [], 0⟩ [⟨1, 0, [1, 2, 3]⟩] := p4)
    | (go_at_call 22; refine (p4.room 0 (.inl rfl)).mono ?_; rintro e w5 ⟨he, nq, rfl⟩; obtain rfl : e = .returned (.int .i64 2) := he; have p5 := p4.drewN nq)
    | (go_at_call 13; refine (p5.layLit b4.size 1 [9] (U8.lit rfl) (by decide) (by decide)).mono ?_; rintro e w6 ⟨he, p6, b6⟩; obtain rfl : e = .returned (.int .i64 0) := he; replace b6 := (below_drewN b4 nq).trans b6; replace p6 : PN w.heap.size w6 R 5 ⟨[], [], 0⟩ [⟨1, 0, [1, 2, 3]⟩, ⟨1, 1, [9]⟩] := p6)
    | (go_at_call 15; refine (p6.turn b6.size (by decide)).mono ?_; rintro e w7 ⟨rfl, p7, b7⟩; replace b7 := b6.trans b7; replace p7 : PN w.heap.size w7 R 5 ⟨[], [], 0⟩ [⟨1, 0, [1, 2, 3]⟩, ⟨1, 1, [9]⟩, ⟨3, 0, []⟩] := p7)
    | (go_at_call 23; clear s1; refine p7.used.mono ?_; rintro e w8 ⟨he, rfl⟩; obtain rfl : e = .returned (.int .i64 1) := he)
    | (go_at_call 14; refine (p7.clear b7.size 0 (by decide)).mono ?_; rintro e w9 ⟨he, p9, b9⟩; obtain rfl : e = .returned (.int .i64 0) := he; replace b9 := b7.trans b9; replace p9 : PN w.heap.size w9 R 5 ⟨[], [], 0⟩ [⟨1, 0, [1, 2, 3]⟩, ⟨1, 1, [9]⟩, ⟨3, 0, []⟩, ⟨2, 0, []⟩] := p9)
    | (go_at_call 19; refine p9.writes.mono ?_; rintro e w10 ⟨he, rfl⟩; obtain rfl : e = .returned (.int .i64 4) := he)
    | (go_at_call 17; clear s2; refine (p9.cut 1 (by decide) (by decide)).mono ?_; rintro e w11 ⟨C, rfl, p11, b11⟩; replace p11 : PN w9.heap.size w11 C 5 ⟨[], [], 0⟩ [⟨1, 0, [1, 2, 3]⟩] := p11; have p12 := p9.below b11; replace b11 := b9.trans (b11.mono b9.size))
    | (go_at_call 24; refine (p11.area 0 (.inl rfl)).mono ?_; rintro e w13 ⟨ao, c, he, ho, hn, b13⟩; obtain rfl : e = .returned (.tuple #[.slice ao 3 c, .int .i64 0]) := he; replace ho : Own 5 w13 w11.heap.size (.slice ao 3 c) [1, 2, 3] := ho; have p13 := p12.below b13; have q13 := p11.below b13; replace b13 := b11.trans (b13.mono b11.size))
    | (go_at_call 17; refine (p13.cutno 5 (.inr (by decide))).mono ?_; rintro e w14 ⟨rfl, b14⟩; have q14 := q13.below b14; have r14 := ho.rd.below b14; have hcv := conv_rd (cap := c) (n := 3) r14 rfl; replace b14 := b13.trans (b14.mono b13.size))
    | (go_at_call 23; refine q14.used.mono ?_; rintro e w15 ⟨he, rfl⟩; obtain rfl : e = .returned (.int .i64 0) := he))
  go_ret
  exact ⟨rfl, b14⟩
end Go.Proofs.Ytfaceimamipbpaa
