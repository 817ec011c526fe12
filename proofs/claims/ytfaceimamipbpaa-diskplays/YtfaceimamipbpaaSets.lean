/-
  DISKS BY SETS OF BLOCKS, and regions that draw their order within a round of a range over a function.
-/
import Derived.Test.YtfaceimamipbpaaKnown
import Derived.OrdersIn
namespace Go.Proofs.Ytfaceimamipbpaa
open Go.RowKit Go.Shelf
set_option linter.unusedSimpArgs false

section
variable {P : Program} {ops : Array Oper} {Q : Exit → Act → World → Prop} {l n : Nat}
/-- One operation of a region, within a round as outside of it. -/
theorem wpOp_in {i : Nat} {K K' : Act → World → Prop} {a : Act} {w : World} (hd : ∀ (j : Nat) (o : Oper), ops[j]? = some o → ∀ c, o.op ≠ .defer c) (hQ : ∀ a w, Q .outgrown a w → False) (hK : ∀ a w, K a w → K' a w)
    (h : wpOp P ops Q i K a w) : wpOpIn (Fence.wide.inRound l) n P ops Q i K' a w := by
  unfold wpOp at h
  unfold wpOpIn
  cases ho : ops[i]? with
  | none => simp only [ho] at h; exact hK _ _ h
  | some o =>
    simp only [ho] at h
    simp only
    by_cases hw : Region.wanted o (yielded ops a.tmps) = true
    · rw [if_pos hw] at h ⊢
      rcases h with h | ⟨_, a0, w0, h0⟩
      · refine ⟨fun _ _ => trivial, ?_⟩
        unfold Oper.wp at h
        have hs : o.semAt (Fence.wide.inRound l).round a.eval = execOp a.eval o := Oper.semAt_eq _ _ _ (hd i o ho)
        rw [hs]
        generalize (execOp a.eval o).run P w = r at h ⊢
        cases r with
        | ok x w' =>
          cases x with
          | value v => exact hK _ _ h
          | skip => exact hK _ _ h
          | defer d => exact hK _ _ h
          | enter f args =>
            refine ⟨fun e => (by cases e), ?_⟩
            refine CallsIn.inRound l (callsIn_wide.2 (Calls.mono h ?_))
            intro e w'' he
            cases e with
            | returned v => exact hK _ _ he
            | panicked c => exact he
            | outgrown => exact he
          | row row args =>
            refine ⟨fun e => (by cases e), fun c cs _ => ?_⟩
            obtain ⟨v, w'', q, s⟩ := h c cs
            exact ⟨v, w'', hK _ _ q, stepsIn_wide.2 s⟩
          | _ => exact h.elim
        | halt x w' =>
          cases x with
          | panic v => exact h
          | _ => exact h.elim
      · exact (hQ _ _ h0).elim
    · rw [if_neg hw] at h ⊢
      exact ⟨fun _ _ => trivial, hK _ _ h⟩
theorem wpAny_in {md : Region.Mode} (hd : ∀ (j : Nat) (o : Oper), ops[j]? = some o → ∀ c, o.op ≠ .defer c) (hQ : ∀ a w, Q .outgrown a w → False) :
    ∀ (fuel : Nat) (listed : Array Bool) (a : Act) (w : World), wpAny P md ops Q fuel listed a w → wpAnyIn (Fence.wide.inRound l) n P md ops Q fuel listed a w
  | 0, _, _, _, h => h
  | fuel + 1, _, _, _, h => ⟨h.1, fun i hi => wpOp_in hd hQ (fun a w => wpAny_in hd hQ fuel _ a w) (h.2 i hi)⟩
/-- A region that draws its order, within a round. -/
theorem region_in {S : World → Prop} {id : Nat} {a : Act} {w : World} (hm : P.follows .mixedOrders = true) (hd : ops.toList.all (fun o => match o.op with | .defer _ => false | _ => true) = true) (hQ : ∀ a w, Q .outgrown a w → False) (hS : S w.drew)
    (h : S w.drew → wpAnyH P .any ops Q S ops.size (Array.replicate ops.size false) a w.drew) : (Code.region id ops true).wpIn (Fence.wide.inRound l) n P Q a w := by
  refine wpIn_region_any hm (wpAny_in (fun j o ho c e => ?_) hQ _ _ _ _ (wpAny_of_held _ _ _ _ (h hS)))
  have := List.all_eq_true.1 hd o (by rw [Array.mem_toList_iff]; exact Array.mem_of_getElem? ho)
  simp [e] at this
end

/-- A disk whose own blocks all lie in S. -/
def PS (S : Nat → Prop) (w : World) (R : Nat) (cap : Int) (beg : St) (log : List Wr) : Prop := ∃ F G, PD F G w R cap beg log ∧ ∀ k, F k → S k
section
variable {S : Nat → Prop} {w w' : World} {R : Nat} {cap : Int} {beg : St} {log : List Wr}
theorem PS.below (h : PS S w R cap beg log) (k : Below w.heap.size w w') : PS S w' R cap beg log := by
  obtain ⟨F, G, h1, h2⟩ := h
  exact ⟨F, G, h1.below k, h2⟩
theorem PS.next {F G : Nat → Prop} {log' : List Wr} (hF : ∀ k, F k → S k) (hS : ∀ k, w.heap.size ≤ k → S k) (h : Next F G w R cap beg log' w') : PS S w' R cap beg log' ∧ Only S w w' := by
  obtain ⟨F', G', h1, h2, h3, _⟩ := h
  refine ⟨⟨F', G', h1, fun k hk => ?_⟩, h2.mono (fun k _ hk => hF k hk)⟩
  rcases h3 k hk with q | q
  · exact hF k q
  · exact hS k q
theorem PS.lay (h : PS S w R cap beg log) (hS : ∀ k, w.heap.size ≤ k → S k) (ar : Int) (ao : Option Addr) (c : Nat) (l : List Int) (hr : Rd w ao l) (hn : ao = none → c = 0) (hu : U8 l) (hl : l.length ≤ 140737488355328) (hlog : log.length < 1000000) :
    Calls Try.prog 13 #[.pointer (some ⟨R, 0, none⟩), .int .i64 ar, .slice ao l.length c] w fun e w' => e = .returned (.int .i64 (layE cap (plays beg log) ar l)) ∧ PS S w' R cap beg (layL cap (plays beg log) ar l log) ∧ Only S w w' := by
  obtain ⟨F, G, h1, h2⟩ := h
  refine (lay_call h1 ar ao c l hr hn hu hl hlog).mono ?_
  rintro e w' ⟨he, hx⟩
  exact ⟨he, PS.next h2 hS hx⟩
theorem PS.clear (h : PS S w R cap beg log) (hS : ∀ k, w.heap.size ≤ k → S k) (ar : Int) (hlog : log.length < 1000000) :
    Calls Try.prog 14 #[.pointer (some ⟨R, 0, none⟩), .int .i64 ar] w fun e w' => e = .returned (.int .i64 (clearE ar)) ∧ PS S w' R cap beg (clearL ar log) ∧ Only S w w' := by
  obtain ⟨F, G, h1, h2⟩ := h
  refine (clear_call h1 ar hlog).mono ?_
  rintro e w' ⟨he, hx⟩
  exact ⟨he, PS.next h2 hS hx⟩
theorem PS.turn (h : PS S w R cap beg log) (hS : ∀ k, w.heap.size ≤ k → S k) (hlog : log.length < 1000000) :
    Calls Try.prog 15 #[.pointer (some ⟨R, 0, none⟩)] w fun e w' => e = .returned (.int .i64 0) ∧ PS S w' R cap beg (log ++ [⟨3, 0, []⟩]) ∧ Only S w w' := by
  obtain ⟨F, G, h1, h2⟩ := h
  refine (turn_call h1 hlog).mono ?_
  rintro e w' ⟨he, hx⟩
  exact ⟨he, PS.next h2 hS hx⟩
/-- A raw write of the log, done to a disk that stands just ahead of it. -/
theorem lay_next {x : Wr} (hk : x.kind = 1) (hx : Ok x) (hf : Fit cap (play (plays beg log) x)) : layE cap (plays beg log) x.area x.data = 0 ∧ layL cap (plays beg log) x.area x.data log = log ++ [x] := by
  obtain ⟨k, a, l⟩ := x
  simp only at hk
  subst hk
  have ha := hx.area
  simp only at ha ⊢
  have h1 : ((((play (plays beg log) ⟨1, a, l⟩).at a).length : Nat) : Int) ≤ cap := hf.at
  have h2 : ((play (plays beg log) ⟨1, a, l⟩).at a).length = ((plays beg log).at a).length + l.length := by
    rw [play_lay]
    rcases ha with rfl | rfl <;> simp [St.at, St.put]
  have he : layE cap (plays beg log) a l = 0 := by
    unfold layE
    rw [if_pos ha, if_neg (by omega)]
  exact ⟨he, by unfold layL; rw [he]; rfl⟩
theorem clear_next {x : Wr} (hk : x.kind = 2) (hx : Ok x) : clearL x.area log = log ++ [x] := by
  obtain ⟨k, a, l⟩ := x
  have hl := hx.clr hk
  have ha := hx.area
  simp only at hk hl ha ⊢
  subst hk hl
  unfold clearL clearE
  rw [if_pos ha]; rfl
theorem turn_next {x : Wr} (hk : x.kind = 3) (hx : Ok x) : log ++ [⟨3, 0, []⟩] = log ++ [x] := by
  obtain ⟨k, a, l⟩ := x
  have hl := hx.trn hk
  simp only at hk hl
  obtain ⟨h1, h2⟩ := hl
  subst hk h1 h2
  rfl
end
end Go.Proofs.Ytfaceimamipbpaa
