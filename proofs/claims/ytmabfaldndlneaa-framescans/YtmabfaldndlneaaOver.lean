/-
  A RANGE OVER All, AND OVER over: the closure goes over the frames of the bytes as they lie; a law for the statement 'for at, f := range over(b)': each round is handed a place and a frame whose bytes are new ones of its own; a round may turn blocks of D, and the bytes that it was handed.
-/
import Derived.Test.YtmabfaldndlneaaScope
namespace Go.Proofs.Ytmabfaldndlneaa
open Go.RowKit Go.Shelf
set_option linter.unusedSimpArgs false
attribute [local go_sem] Oper.semAt_some

/-- The bytes, as the closure has them in the box L. -/
structure BAt (W : World) (L : Nat) (ao : Option Addr) (c : Nat) (b : List Int) : Prop where
  box : W.cell? ⟨L, 0, none⟩ = some (.slice ao b.length c)
  bs : Bs W ao c b
theorem BAt.only {W W' : World} {L : Nat} {ao : Option Addr} {c : Nat} {b : List Int} {D : Nat → Prop} (h : BAt W L ao c b) (k : Only D W W') (hL : ¬ D L) (hv : ∀ a, ao = some a → ¬ D a.block) : BAt W' L ao c b :=
  ⟨k.cell h.box hL, ⟨k.rd h.bs.rd hv, h.bs.cap, h.bs.nil, h.bs.u8⟩⟩
theorem BAt.below {W W' : World} {L : Nat} {ao : Option Addr} {c : Nat} {b : List Int} (h : BAt W L ao c b) (k : Below W.heap.size W W') : BAt W' L ao c b :=
  h.only (Only.ofBelow k) (fun d => d.elim) (fun _ _ d => d.elim)

/-- What a round is handed: new bytes. -/
structure Handed (n : Nat) (W : World) (l : List Int) (ao : Option Addr) (c : Nat) : Prop where
  own : Own 5 W n (.slice ao l.length c) l
  nil : ao = none → c = 0
/-- What a round may turn: blocks of D that were there when it began, and the bytes that it was handed. -/
def Turns (D : Nat → Prop) (m : Nat) (ao : Option Addr) (n c : Nat) : Nat → Prop := fun j => (D j ∧ j < m) ∨ Value.ownBlock (.slice ao n c) = some j

theorem sub_some {ab off c p : Nat} (h : p < c) : sub (some ⟨ab, off, none⟩) c p = some ⟨ab, off + p, none⟩ := by
  unfold sub
  rw [if_neg (by omega), Option.map_some, Nat.mul_one, add_lit]
theorem frs_drop {b : List Int} : ∀ {k p : Nat}, p = place (frs b 0) k → k ≤ (frs b 0).length → (frs b 0).drop k = frs b p
  | 0, p, h, _ => by subst h; rfl
  | k + 1, p, h, hk => by
    obtain ⟨y, hy⟩ : ∃ y, (frs b 0)[k]? = some y := ⟨_, List.getElem?_eq_getElem (by omega)⟩
    rw [(frs_at b k 0 y hy).1, h]
    simp [place, hy]
theorem place_le {b : List Int} {k : Nat} (hk : k ≤ (frs b 0).length) : place (frs b 0) k ≤ b.length := by
  cases k with
  | zero => simp [place]
  | succ k =>
    obtain ⟨y, hy⟩ : ∃ y, (frs b 0)[k]? = some y := ⟨_, List.getElem?_eq_getElem (by omega)⟩
    obtain ⟨h1, h2, h3, h4⟩ := frs_mem 0 y (List.mem_of_getElem? hy)
    have := next_le h3
    rw [← h4] at this
    simpa [place, hy] using this

set_option maxRecDepth 100000 in
set_option maxHeartbeats 600000 in
/-- The closure, whatever the rounds do. -/
theorem over1_in (l L : Nat) (ao : Option Addr) (c : Nat) (b : List Int) (hlen : b.length ≤ 1099511627776) (D : Nat → Prop) (J : Nat → World → Prop) (Jx : World → Prop)
    (hDL : ¬ D L) (hDa : ∀ a, ao = some a → ¬ D a.block) (hJB : ∀ k W W', J k W → Below W.heap.size W W' → J k W')
    (hY : ∀ k x ao' c' W0 W, (frs b 0)[k]? = some x → J k W0 → Below W0.heap.size W0 W → BAt W L ao c b → Handed W0.heap.size W x.2.body ao' c' → YieldAt Fence.wide 4 Try.prog l #[.int .i64 (x.1 : Int), frv x.2.kind ao' x.2.body.length c'] W fun e W' =>
      Only (Turns D W0.heap.size ao' x.2.body.length c') W W' ∧ ((e = .returned (.bool true) ∧ J (k + 1) W') ∨ (e = .returned (.bool false) ∧ Jx W')))
    (W : World) (hL : BAt W L ao c b) (h0 : J 0 W) :
    CallsIn Fence.wide 5 Try.prog 27 #[.func (.yield l) #[] #[], .pointer (some ⟨L, 0, none⟩)] W fun e W' => (∃ v, e = .returned v) ∧ (J (frs b 0).length W' ∨ Jx W') := by
  have hn : 1 ≤ 5 := by omega
  refine callsIn_of_wp Try.func27 rfl trivial ?_ rfl
  simp only [Try.ntmps27, List.size_toArray, List.length_cons, List.length_nil, Nat.reduceAdd, Nat.reduceSub, Array.replicate_succ, Array.replicate_zero, List.push_toArray, List.append_toArray, List.nil_append, List.cons_append]
  refine wpIn_scope_straight ?_
  gi_wp2
  refine wpIn_label ?_
  gi_wp2
  gi_loopw [3] (fun i wr => ∃ k : Nat, k ≤ (frs b 0).length ∧ i = .int .i64 (place (frs b 0) k : Nat) ∧ J k wr ∧ BAt wr L ao c b) (fun i _ => b.length - (intOf i).toNat)
  case atStart => exact ⟨0, Nat.zero_le _, rfl, h0, hL⟩
  case round =>
    obtain ⟨k, hk, rfl, hJ, hB⟩ := hrel
    have hpl := place_le hk
    obtain ⟨p, hp⟩ : ∃ p, p = place (frs b 0) k := ⟨_, rfl⟩
    rw [← hp] at hpl ⊢
    have hdr := hide (frs_drop hp hk)
    clear hp
    have hbox := hB.box
    by_cases hlt : p < b.length
    · have hd : decide ((p : Int) < (b.length : Int)) = true := by simp; omega
      have hdn : decide (p < b.length) = true := by simpa using hlt
      obtain ⟨y, hy⟩ : ∃ y, b[p]? = some y := ⟨_, List.getElem?_eq_getElem hlt⟩
      obtain ⟨ab, off, rfl, _⟩ := hB.bs.rd.at hy
      have hcap := hB.bs.cap
      have hp1 : (p : Int) ≤ (b.length : Int) := by omega
      have hp2 : (b.length : Int) ≤ (c : Int) := by omega
      have hpc : ¬ c = p := by omega
      have hbp := hB.bs.from (i := p) (by omega)
      have hdl : (b.drop p).length = b.length - p := by simp
      have hf := first_any hbp (by rw [hdl]; omega)
      rw [hdl, sub_some (by omega)] at hf
      have HB := hide hB
      have HJ := hide hJ
      by_cases hw : why (b.drop p) = 0
      · have hfr : frs b p = (p, fst (b.drop p)) :: frs b (p + 9 + (fst (b.drop p)).body.length) := frs_yes ⟨hlt, hw⟩
        have hx : (frs b 0)[k]? = some (p, fst (b.drop p)) := by
          have : ((frs b 0).drop k)[0]? = some (p, fst (b.drop p)) := by rw [hdr.out, hfr]; rfl
          rw [List.getElem?_drop] at this
          simpa using this
        have hnx := hide (And.intro hx (And.intro (next_le hw) (show place (frs b 0) (k + 1) = p + 9 + (fst (b.drop p)).body.length by simp [place, hx])))
        have hbl : (fst (b.drop p)).body.length ≤ 1099511627776 := by have := next_le hw; omega
        have hf2 : Calls Try.prog 18 #[.slice (some ⟨ab, off + p, none⟩) (b.length - p) (c - p)] wr fun e w' => (∃ A C, e = .returned (.tuple #[frv (fst (b.drop p)).kind A (fst (b.drop p)).body.length C, .int .i64 0]) ∧ Bs wr A C (fst (b.drop p)).body) ∧ Below wr.heap.size wr w' := hf.mono (by
          rintro e w' ⟨hF | hF, hb⟩
          · exact (hF.1 hw).elim
          · exact ⟨⟨_, _, hF.2.1, hF.2.2⟩, hb⟩)
        obtain ⟨y, hy⟩ : ∃ y, y = fst (b.drop p) := ⟨_, rfl⟩
        rw [← hy] at hnx hbl hf2
        have htold : ∀ A C w2, Bs wr A C y.body → Below wr.heap.size wr w2 → Calls Try.prog 21 #[frv y.kind A y.body.length C] (w2.alloc (.cells #[.int .i64 y.kind, .slice A y.body.length C] 36)) fun e w' => ∃ ao' c', e = .returned (frv y.kind ao' y.body.length c') ∧ Hid (Below wr.heap.size wr w' ∧ Handed (w2.heap.size + 1) w' y.body ao' c' ∧ w'.heap[w2.heap.size]? = some (.cells #[.int .i64 y.kind, .slice A y.body.length C] 36 (0, 0)) ∧ wr.heap.size ≤ w2.heap.size) := fun A C w2 hbs hb2 => by
          have hb3 : Below w2.heap.size w2 (w2.alloc (.cells #[.int .i64 y.kind, .slice A y.body.length C] 36)) := (Below.refl _ w2).alloc (Nat.le_refl _) _
          refine (told_any y.kind A C y.body _ ((hbs.below hb2).below hb3).rd hbs.nil (by omega)).mono ?_
          rintro e w' ⟨ao', c', rfl, ho, hn', hb4⟩
          exact ⟨ao', c', rfl, hide ⟨(hb2.trans (hb3.mono hb2.size)).trans (hb4.mono (Nat.le_trans hb2.size hb3.size)), ⟨by simpa using ho, hn'⟩, (hb4.block _ (by simp)).trans (heap_alloc_new w2 _), hb2.size⟩⟩
        clear hB hJ hL h0 hf hbp hx hfr hw hy
        gi_wp2_with (first
          | (refine ⟨trivial, ?_⟩; gi_at_call 18; refine (callsIn_wide.2 hf2).mono ?_; rintro e w2 ⟨⟨A, C, rfl, hbs⟩, b2⟩; have ht := htold A C w2 hbs b2)
          | (refine ⟨trivial, ?_⟩; gi_at_call 21; refine (callsIn_wide.2 ht).mono ?_; rintro e w4 ⟨ao', c', rfl, HT⟩; obtain ⟨fn, tmps, assign, body, hy, hR⟩ := hY k (p, y) ao' c' wr w4 hnx.out.1 HJ.out HT.out.1 (HB.out.below HT.out.1) ⟨HT.out.2.1.own.lift (Nat.le_trans HT.out.2.2.2 (Nat.le_succ _)), HT.out.2.1.nil⟩))
        refine hR.mono ?_
        rintro e W5 ⟨hon, (⟨rfl, hJ5⟩ | ⟨rfl, hJx5⟩)⟩
        · have hF : w4.cell? ⟨w2.heap.size, 1, none⟩ = some (.slice A y.body.length C) := (blk2 HT.out.2.2.1).2.1
          have hF5 : W5.cell? ⟨w2.heap.size, 1, none⟩ = some (.slice A y.body.length C) := hon.cell hF (fun e => by
            have q := HT.out.2.2.2
            rcases e with e | e
            · have := e.2; simp only at this; omega
            · have := (own_new HT.out.2.1.own _ e).1; simp only at this; omega)
          have hB5 := hide ((HB.out.below HT.out.1).only hon (fun e => by
            have hLl := World.block_lt_of_cell? _ _ HB.out.box
            rcases e with e | e
            · exact hDL e.1
            · have := (own_new HT.out.2.1.own _ e).1; have := HT.out.2.2.2; simp only at hLl; omega) (fun a ha e => by
            rcases e with e | e
            · exact hDa a ha e.1
            · have q := (own_new HT.out.2.1.own _ e).1
              cases ha
              have hy2 := HB.out.bs.rd.at (List.getElem?_eq_getElem hlt)
              obtain ⟨_, _, e1, e2⟩ := hy2
              cases e1
              have := World.block_lt_of_cell? _ _ e2
              have := HT.out.2.2.2
              simp only at *
              omega))
          have hsz := size_any A y.body.length C W5 (by omega)
          have HJ5 := hide hJ5
          clear hF hJ5 hR ht htold hf2
          gi_wp2_with (refine ⟨trivial, ?_⟩; gi_at_call 16; refine (callsIn_wide.2 hsz).mono ?_; rintro e w6 ⟨rfl, rfl⟩)
          go_roundw
          case rel => exact ⟨k + 1, by have := (List.getElem?_eq_some_iff.1 hnx.out.1).1; omega, by rw [hnx.out.2.2]; exact congrArg _ (by push_cast; omega), HJ5.out, hB5.out⟩
          case measure => simp [intOf]; have := hnx.out.2.1; omega
        · gi_wp2
          simp only [Exit.noGoto]
          go_end0
          exact ⟨⟨_, rfl⟩, .inr hJx5⟩
      · have hno : frs b p = [] := frs_no (fun h => hw h.2)
        have hkl : k = (frs b 0).length := by
          have := hdr.out
          rw [hno, List.drop_eq_nil_iff] at this
          omega
        have hf1 : Calls Try.prog 18 #[.slice (some ⟨ab, off + p, none⟩) (b.length - p) (c - p)] wr fun e w' => e = .returned (.tuple #[frv 0 none 0 0, .int .i64 (why (b.drop p) : Nat)]) ∧ Below wr.heap.size wr w' := hf.mono (by
          rintro e w' ⟨hF | hF, hb⟩
          · exact ⟨hF.2, hb⟩
          · exact (hw hF.1).elim)
        obtain ⟨n, hn⟩ : ∃ n, n = why (b.drop p) := ⟨_, rfl⟩
        rw [← hn] at hf1 hw
        have hd3 : ((n : Int) == 0) = false := by simp; omega
        have hd4 : ((n : Int) != 0) = true := by simp; omega
        have hd5 : (n == 0) = false := by simpa using hw
        have hd6 : decide (n = 0) = false := by simpa using hw
        have HK := hide hkl
        clear hB hJ hL h0 hf hbp hno hkl hn
        gi_wp2_with (refine ⟨trivial, ?_⟩; gi_at_call 18; refine (callsIn_wide.2 hf1).mono ?_; rintro e w2 ⟨rfl, b2⟩)
        simp only [Exit.noGoto]
        go_end0
        exact ⟨⟨_, rfl⟩, .inl (by rw [← HK.out]; exact hJB k wr _ HJ.out (b2.alloc b2.size _))⟩
    · have hd : decide ((p : Int) < (b.length : Int)) = false := by simp; omega
      have hdn : decide (p < b.length) = false := by simpa using hlt
      have hno : frs b p = [] := frs_no (fun h => hlt h.1)
      have hkl : k = (frs b 0).length := by
        have := hdr.out
        rw [hno, List.drop_eq_nil_iff] at this
        omega
      have HJ := hide (And.intro hJ hkl)
      clear hJ hkl hL h0 hB hno
      gi_wp2
      simp only [Exit.noGoto]
      go_end0
      exact ⟨⟨_, rfl⟩, .inl (by rw [← HJ.out.2]; exact HJ.out.1)⟩
end Go.Proofs.Ytmabfaldndlneaa
