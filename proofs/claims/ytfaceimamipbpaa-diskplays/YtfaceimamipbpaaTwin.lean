/-
  Both disks over one world: the program's and the document's, apart.
-/
import Derived.Test.YtfaceimamipbpaaLaw3
namespace Go.Proofs.Ytfaceimamipbpaa
open Go.RowKit
set_option linter.unusedSimpArgs false

/-- Both disks: what they turn lies at B or behind it, and nothing of theirs lies in X. -/
def Twin (B : Nat) (X : Nat → Prop) (w : World) (D R : Nat) (cap : Int) (beg : St) (ld lr : List Wr) : Prop :=
  ∃ Fd Gd Fr Gr, PD Fd Gd w D cap beg ld ∧ RD Fr Gr w R cap beg lr ∧ Apart Fd Fr ∧ Apart Fd Gr ∧ Apart Fr Gd ∧ (∀ k, Fd k ∨ Fr k → B ≤ k) ∧ (∀ k, Fd k ∨ Gd k ∨ Fr k ∨ Gr k → ¬ X k)

section
variable {B : Nat} {X : Nat → Prop} {w w' : World} {D R : Nat} {cap : Int} {beg : St} {ld lr : List Wr}
theorem Twin.size (h : Twin B X w D R cap beg ld lr) : B ≤ w.heap.size := by
  obtain ⟨Fd, Gd, Fr, Gr, p, r, a1, a2, a3, hB, hX⟩ := h
  exact Nat.le_trans (hB D (.inl p.fR)) (Nat.le_of_lt p.lt)
theorem Twin.below (h : Twin B X w D R cap beg ld lr) (k : Below w.heap.size w w') : Twin B X w' D R cap beg ld lr := by
  obtain ⟨Fd, Gd, Fr, Gr, p, r, a1, a2, a3, hB, hX⟩ := h
  exact ⟨Fd, Gd, Fr, Gr, p.below k, r.below k, a1, a2, a3, hB, hX⟩
theorem Twin.only (h : Twin B X w D R cap beg ld lr) (k : Only X w w') : Twin B X w' D R cap beg ld lr := by
  obtain ⟨Fd, Gd, Fr, Gr, p, r, a1, a2, a3, hB, hX⟩ := h
  exact ⟨Fd, Gd, Fr, Gr, p.only k (fun j x f => hX j (.inl f) x) (fun j x f => hX j (.inr (.inl f)) x), r.only k (fun j x f => hX j (.inr (.inr (.inl f))) x) (fun j x f => hX j (.inr (.inr (.inr f))) x), a1, a2, a3, hB, hX⟩
/-- New blocks may be set aside. -/
theorem Twin.aside (h : Twin B X w D R cap beg ld lr) {Y : Nat → Prop} (hY : ∀ k, Y k → w.heap.size ≤ k) : Twin B Y w D R cap beg ld lr := by
  obtain ⟨Fd, Gd, Fr, Gr, p, r, a1, a2, a3, hB, hX⟩ := h
  refine ⟨Fd, Gd, Fr, Gr, p, r, a1, a2, a3, hB, fun k hk y => ?_⟩
  have := hY k y
  rcases hk with q | q | q | q
  · have := p.uF k q; omega
  · have := p.uG k q; omega
  · have := r.uF k q; omega
  · have := r.uG k q; omega
theorem Twin.free (h : Twin B X w D R cap beg ld lr) : Twin B (fun _ => False) w D R cap beg ld lr := h.aside (fun _ q => q.elim)

/-- A call that turns the program's disk alone. -/
theorem Twin.onD (h : Twin B X w D R cap beg ld lr) (hX : Under X w.heap.size) {f : FuncId} {args : Array Value} {E : Ending → Prop} {ld' : List Wr}
    (hc : ∀ Fd Gd, PD Fd Gd w D cap beg ld → Calls Try.prog f args w fun e w' => E e ∧ Next Fd Gd w D cap beg ld' w') :
    Calls Try.prog f args w fun e w' => E e ∧ Twin B X w' D R cap beg ld' lr ∧ Only (fun k => B ≤ k ∧ ¬ X k) w w' := by
  have hs := h.size
  obtain ⟨Fd, Gd, Fr, Gr, p, r, a1, a2, a3, hB, hx⟩ := h
  refine (hc Fd Gd p).mono ?_
  rintro e w' ⟨he, F', G', p', on, gF, gG⟩
  have uFr := r.uF; have uGr := r.uG
  refine ⟨he, ⟨F', G', Fr, Gr, p', r.only on a1 a2, ?_, ?_, ?_, ?_, ?_⟩, on.mono (fun k _ q => ⟨hB k (.inl q), hx k (.inl q)⟩)⟩
  · intro k q1 q2
    rcases gF k q1 with q | q
    · exact a1 k q q2
    · have := uFr k q2; omega
  · intro k q1 q2
    rcases gF k q1 with q | q
    · exact a2 k q q2
    · have := uGr k q2; omega
  · intro k q1 q2
    rcases gG k q2 with q | q
    · exact a3 k q1 q
    · have := uFr k q1; omega
  · rintro k (q | q)
    · rcases gF k q with q | q
      · exact hB k (.inl q)
      · omega
    · exact hB k (.inr q)
  · rintro k (q | q | q | q) x
    · rcases gF k q with q | q
      · exact hx k (.inl q) x
      · have := hX k x; omega
    · rcases gG k q with q | q
      · exact hx k (.inr (.inl q)) x
      · have := hX k x; omega
    · exact hx k (.inr (.inr (.inl q))) x
    · exact hx k (.inr (.inr (.inr q))) x

/-- A call that turns the document's disk alone. -/
theorem Twin.onR (h : Twin B X w D R cap beg ld lr) (hX : Under X w.heap.size) {f : FuncId} {args : Array Value} {E : Ending → Prop} {lr' : List Wr}
    (hc : ∀ Fr Gr, RD Fr Gr w R cap beg lr → Calls Try.prog f args w fun e w' => E e ∧ RNext Fr Gr w R cap beg lr' w') :
    Calls Try.prog f args w fun e w' => E e ∧ Twin B X w' D R cap beg ld lr' ∧ Only (fun k => B ≤ k ∧ ¬ X k) w w' := by
  have hs := h.size
  obtain ⟨Fd, Gd, Fr, Gr, p, r, a1, a2, a3, hB, hx⟩ := h
  refine (hc Fr Gr r).mono ?_
  rintro e w' ⟨he, F', G', r', on, gF, gG⟩
  have uFd := p.uF; have uGd := p.uG
  refine ⟨he, ⟨Fd, Gd, F', G', p.only on (fun k q1 q2 => a1 k q2 q1) a3, r', ?_, ?_, ?_, ?_, ?_⟩, on.mono (fun k _ q => ⟨hB k (.inr q), hx k (.inr (.inr (.inl q)))⟩)⟩
  · intro k q1 q2
    rcases gF k q2 with q | q
    · exact a1 k q1 q
    · have := uFd k q1; omega
  · intro k q1 q2
    rcases gG k q2 with q | q
    · exact a2 k q1 q
    · have := uFd k q1; omega
  · intro k q1 q2
    rcases gF k q1 with q | q
    · exact a3 k q q2
    · have := uGd k q2; omega
  · rintro k (q | q)
    · exact hB k (.inl q)
    · rcases gF k q with q | q
      · exact hB k (.inr q)
      · omega
  · rintro k (q | q | q | q) x
    · exact hx k (.inl q) x
    · exact hx k (.inr (.inl q)) x
    · rcases gF k q with q | q
      · exact hx k (.inr (.inr (.inl q))) x
      · have := hX k x; omega
    · rcases gG k q with q | q
      · exact hx k (.inr (.inr (.inr q))) x
      · have := hX k x; omega

theorem Twin.lay (h : Twin B X w D R cap beg ld lr) (hX : Under X w.heap.size) (ar : Int) (ao : Option Addr) (c : Nat) (l : List Int) (hr : Rd w ao l) (hn : ao = none → c = 0) (hu : U8 l) (hl : l.length ≤ 140737488355328) (hlog : ld.length < 1000000) :
    Calls Try.prog 13 #[.pointer (some ⟨D, 0, none⟩), .int .i64 ar, .slice ao l.length c] w fun e w' => e = .returned (.int .i64 (layE cap (plays beg ld) ar l)) ∧ Twin B X w' D R cap beg (layL cap (plays beg ld) ar l ld) lr ∧ Only (fun k => B ≤ k ∧ ¬ X k) w w' :=
  h.onD hX (E := fun e => e = .returned (.int .i64 (layE cap (plays beg ld) ar l))) (fun _ _ p => lay_call p ar ao c l hr hn hu hl hlog)
theorem Twin.rlay (h : Twin B X w D R cap beg ld lr) (hX : Under X w.heap.size) (ar : Int) (ao : Option Addr) (c : Nat) (l : List Int) (hr : Rd w ao l) (hn : ao = none → c = 0) (hu : U8 l) (hl : l.length ≤ 140737488355328) (hlog : lr.length < 1000000) :
    Calls Try.prog 32 #[.pointer (some ⟨R, 0, none⟩), .int .i64 ar, .slice ao l.length c] w fun e w' => e = .returned (.int .i64 (layE cap (plays beg lr) ar l)) ∧ Twin B X w' D R cap beg ld (layL cap (plays beg lr) ar l lr) ∧ Only (fun k => B ≤ k ∧ ¬ X k) w w' :=
  h.onR hX (E := fun e => e = .returned (.int .i64 (layE cap (plays beg lr) ar l))) (fun _ _ r => rlay_call r ar ao c l hr hn hu hl hlog)
theorem Twin.clear (h : Twin B X w D R cap beg ld lr) (hX : Under X w.heap.size) (ar : Int) (hlog : ld.length < 1000000) :
    Calls Try.prog 14 #[.pointer (some ⟨D, 0, none⟩), .int .i64 ar] w fun e w' => e = .returned (.int .i64 (clearE ar)) ∧ Twin B X w' D R cap beg (clearL ar ld) lr ∧ Only (fun k => B ≤ k ∧ ¬ X k) w w' :=
  h.onD hX (E := fun e => e = .returned (.int .i64 (clearE ar))) (fun _ _ p => clear_call p ar hlog)
theorem Twin.rclear (h : Twin B X w D R cap beg ld lr) (hX : Under X w.heap.size) (ar : Int) (hlog : lr.length < 1000000) :
    Calls Try.prog 33 #[.pointer (some ⟨R, 0, none⟩), .int .i64 ar] w fun e w' => e = .returned (.int .i64 (clearE ar)) ∧ Twin B X w' D R cap beg ld (clearL ar lr) ∧ Only (fun k => B ≤ k ∧ ¬ X k) w w' :=
  h.onR hX (E := fun e => e = .returned (.int .i64 (clearE ar))) (fun _ _ r => rclear_call r ar hlog)
theorem Twin.turn (h : Twin B X w D R cap beg ld lr) (hX : Under X w.heap.size) (hlog : ld.length < 1000000) :
    Calls Try.prog 15 #[.pointer (some ⟨D, 0, none⟩)] w fun e w' => e = .returned (.int .i64 0) ∧ Twin B X w' D R cap beg (ld ++ [⟨3, 0, []⟩]) lr ∧ Only (fun k => B ≤ k ∧ ¬ X k) w w' :=
  h.onD hX (E := fun e => e = .returned (.int .i64 0)) (fun _ _ p => turn_call p hlog)
theorem Twin.rturn (h : Twin B X w D R cap beg ld lr) (hX : Under X w.heap.size) (hlog : lr.length < 1000000) :
    Calls Try.prog 34 #[.pointer (some ⟨R, 0, none⟩)] w fun e w' => e = .returned (.int .i64 0) ∧ Twin B X w' D R cap beg ld (lr ++ [⟨3, 0, []⟩]) ∧ Only (fun k => B ≤ k ∧ ¬ X k) w w' :=
  h.onR hX (E := fun e => e = .returned (.int .i64 0)) (fun _ _ r => rturn_call r hlog)

/-- Beside a cut of the program's disk, and one of the document's, what the old disk turns turns neither. -/
theorem twin_cut {Fd Gd Fc Gc Fx Gx : Nat → Prop} {w1 w2 w3 : World} {D C Z : Nat} {ld' lc lx lz : List Wr} (hB : B ≤ w.heap.size) (p : PD Fd Gd w D cap beg ld) (pc : PD Fc Gc w1 C cap beg lc) (nF : ∀ k, Fc k → w.heap.size ≤ k) (gG : Grown Gd Gc w) (b1 : Below w.heap.size w w1)
    (px : RD Fx Gx w2 Z cap beg lx) (mF : ∀ k, Fx k → w1.heap.size ≤ k) (mG : ∀ k, Gx k → w1.heap.size ≤ k) (b2 : Below w1.heap.size w1 w2) (hn : Next Fd Gd w2 D cap beg ld' w3) (hlz : lc = lz) :
    Twin B (fun _ => False) w3 C Z cap beg lz lx := by
  subst hlz
  have s1 := b1.size; have s2 := b2.size
  have uFd := p.uF; have uGd := p.uG; have uFc := pc.uF; have uGc := pc.uG; have ad := p.apart
  obtain ⟨F', G', _, on, _, _⟩ := hn
  refine ⟨Fc, Gc, Fx, Gx, (pc.below b2).only on ?_ ?_, px.only on ?_ ?_, ?_, ?_, ?_, ?_, fun _ _ q => q⟩
  · intro k q1 q2; have := uFd k q1; have := nF k q2; omega
  · intro k q1 q2
    rcases gG k q2 with q | q
    · exact ad k q1 q
    · have := uFd k q1; omega
  · intro k q1 q2; have := uFd k q1; have := mF k q2; omega
  · intro k q1 q2; have := uFd k q1; have := mG k q2; omega
  · intro k q1 q2; have := uFc k q1; have := mF k q2; omega
  · intro k q1 q2; have := uFc k q1; have := mG k q2; omega
  · intro k q1 q2; have := mF k q1; have := uGc k q2; omega
  · rintro k (q | q)
    · have := nF k q; omega
    · have := mF k q; omega

/-- Beside a copy of the program's disk. -/
theorem twin_copy {Fd Gd Fr Gr Fc Gc : Nat → Prop} {w1 w2 w3 : World} {D C R : Nat} {ld' lc : List Wr} (hB : B ≤ w.heap.size) (hBr : ∀ k, Fr k → B ≤ k) (p : PD Fd Gd w D cap beg ld) (r : RD Fr Gr w R cap beg lr) (a1 : Apart Fd Fr) (a2 : Apart Fd Gr) (a3 : Apart Fr Gd) (pc : PD Fc Gc w1 C cap beg lc) (nF : ∀ k, Fc k → w.heap.size ≤ k) (gG : Grown Gd Gc w) (b1 : Below w.heap.size w w1)
    (b2 : Below w1.heap.size w1 w2) (hn : Next Fd Gd w2 D cap beg ld' w3) :
    Twin B (fun _ => False) w3 C R cap beg lc lr := by
  have s1 := b1.size; have s2 := b2.size
  have uFd := p.uF; have uGd := p.uG; have uFc := pc.uF; have uGc := pc.uG; have ad := p.apart; have uFr := r.uF; have uGr := r.uG
  have r2 := (r.below b1).below b2
  obtain ⟨F', G', _, on, _, _⟩ := hn
  refine ⟨Fc, Gc, Fr, Gr, (pc.below b2).only on ?_ ?_, r2.only on a1 a2, ?_, ?_, ?_, ?_, fun _ _ q => q⟩
  · intro k q1 q2; have := uFd k q1; have := nF k q2; omega
  · intro k q1 q2
    rcases gG k q2 with q | q
    · exact ad k q1 q
    · have := uFd k q1; omega
  · intro k q1 q2; have := nF k q1; have := uFr k q2; omega
  · intro k q1 q2; have := nF k q1; have := uGr k q2; omega
  · intro k q1 q2
    rcases gG k q2 with q | q
    · exact a3 k q1 q
    · have := uFr k q1; omega
  · rintro k (q | q)
    · have := nF k q; omega
    · exact hBr k q
end
end Go.Proofs.Ytfaceimamipbpaa
