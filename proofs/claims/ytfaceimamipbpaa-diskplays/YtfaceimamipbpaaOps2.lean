/-
  WALKS over the program's disk: Write; Lay, Clear, Turn.
-/
import Derived.Test.YtfaceimamipbpaaOps
namespace Go.Proofs.Ytfaceimamipbpaa
open Go.RowKit
set_option linter.unusedSimpArgs false

/-- What a call leaves of a disk: the same blocks, or new ones. -/
def Next (F G : Nat → Prop) (w : World) (R : Nat) (cap : Int) (beg : St) (log' : List Wr) (w' : World) : Prop :=
  ∃ F' G', PD F' G' w' R cap beg log' ∧ Only F w w' ∧ Grown F F' w ∧ Grown G G' w
def layE (cap : Int) (s : St) (ar : Int) (l : List Int) : Int := if ar = 0 ∨ ar = 1 then (if cap - ((s.at ar).length : Nat) < (l.length : Nat) then 8 else 0) else 2
def layL (cap : Int) (s : St) (ar : Int) (l : List Int) (log : List Wr) : List Wr := if layE cap s ar l = 0 then log ++ [⟨1, ar, l⟩] else log
def clearE (ar : Int) : Int := if ar = 0 ∨ ar = 1 then 0 else 2
def clearL (ar : Int) (log : List Wr) : List Wr := if clearE ar = 0 then log ++ [⟨2, ar, []⟩] else log

section
variable {F G : Nat → Prop} {w w' : World} {R : Nat} {cap : Int} {beg : St} {log : List Wr}
theorem Next.same (h : PD F G w R cap beg log) (n : Nat) : Next F G w R cap beg log (w.drewN n) := ⟨F, G, h.drewN n, (Only.refl F w).drewN n, Grown.refl _ _, Grown.refl _ _⟩
theorem Next.stay (h : PD F G w R cap beg log) : Next F G w R cap beg log w := ⟨F, G, h, Only.refl F w, Grown.refl _ _, Grown.refl _ _⟩

theorem play_lay (s : St) (ar : Int) (l : List Int) : play s ⟨1, ar, l⟩ = s.put ar (s.at ar ++ l) := rfl
theorem play_clear (s : St) (ar : Int) (l : List Int) : play s ⟨2, ar, l⟩ = s.put ar [] := rfl
theorem play_turn (s : St) (ar : Int) (l : List Int) : play s ⟨3, ar, l⟩ = { s with u := 1 - s.u } := rfl
theorem Fit.lay {s : St} {ar : Int} {l : List Int} (h : Fit cap s) (ha : ar = 0 ∨ ar = 1) (hl : ((s.at ar).length : Int) + l.length ≤ cap) (hu : U8 l) : Fit cap (play s ⟨1, ar, l⟩) := by
  rw [play_lay]
  rcases ha with rfl | rfl
  · exact ⟨by have : ((s.a0 ++ l).length : Int) ≤ cap := by { rw [List.length_append]; simpa [St.at] using hl }
              exact this, h.l1, h.b0.append hu, h.b1, h.u⟩
  · exact ⟨h.l0, by have : ((s.a1 ++ l).length : Int) ≤ cap := by { rw [List.length_append]; simpa [St.at] using hl }
                    exact this, h.b0, h.b1.append hu, h.u⟩
theorem Fit.clear {s : St} {ar : Int} {l : List Int} (h : Fit cap s) (ha : ar = 0 ∨ ar = 1) (hc : 0 ≤ cap) : Fit cap (play s ⟨2, ar, l⟩) := by
  rw [play_clear]
  rcases ha with rfl | rfl
  · exact ⟨hc, h.l1, U8.nil, h.b1, h.u⟩
  · exact ⟨h.l0, hc, h.b0, U8.nil, h.u⟩
theorem Fit.turn {s : St} {ar : Int} {l : List Int} (h : Fit cap s) : Fit cap (play s ⟨3, ar, l⟩) := by
  rw [play_turn]
  exact ⟨h.l0, h.l1, h.b0, h.b1, by rcases h.u with q | q <;> rw [q] <;> simp⟩
theorem Fit.at {s : St} {ar : Int} (h : Fit cap s) : ((s.at ar).length : Int) ≤ cap := by
  unfold St.at
  split
  · exact h.l0
  · exact h.l1
theorem Fit.u8 {s : St} {ar : Int} (h : Fit cap s) : U8 (s.at ar) := by
  unfold St.at
  split
  · exact h.b0
  · exact h.b1

/-- A raw write that may be done is done. -/
theorem PD.do (h : PD F G w R cap beg log) (x : Wr) (ao : Option Addr) (c : Nat) (hx : Ok x) (hG : RdG w G ao c x.data) (hf : Fit cap (play (plays beg log) x)) (hlog : log.length < 1000000) :
    Calls Try.prog 37 #[.pointer (some ⟨R, 0, none⟩), wrv x.kind x.area ao x.data.length c] w fun e w' => (∃ v, e = .returned v) ∧ ∃ F', PD F' G w' R cap beg (log ++ [x]) ∧ Only F w w' ∧ Grown F F' w := by
  obtain ⟨x0, c0, x1, c1, va, vb, vl, xs, hr⟩ := h.disk
  refine (do_any x ao c hr hx hG ?_ h.fits.now.u hlog).mono ?_
  · intro hk
    have h1 : ((plays beg log).at x.area).length + x.data.length = ((play (plays beg log) x).at x.area).length := by
      obtain ⟨k, a, l⟩ := x
      simp only at hk
      subst hk
      rw [play_lay]
      rcases hx.area with e | e <;> simp only at e <;> subst e <;> simp [St.at, St.put]
    have h2 := hf.at (ar := x.area)
    have := h.most
    omega
  · rintro e w' ⟨hv, F', hd, ho, hg⟩
    exact ⟨hv, F', ⟨by rw [plays_snoc]; exact hd, h.fits.snoc hx hf, h.pos, h.most⟩, ho, hg⟩
/-- More blocks that are only read. -/
theorem PD.wider (h : PD F G w R cap beg log) {G' : Nat → Prop} (hG : ∀ k, G k → G' k) (ha : Apart F G') (hu : Under G' w.heap.size) : PD F G' w R cap beg log := by
  obtain ⟨x0, c0, x1, c1, va, vb, vl, xs, hr⟩ := h.disk
  exact ⟨⟨x0, c0, x1, c1, va, vb, vl, xs, hr.wider hG ha hu⟩, h.fits, h.pos, h.most⟩
/-- New bytes beside a disk: they are among those that it reads. -/
theorem PD.beside (h : PD F G w R cap beg log) {w1 : World} {ao : Option Addr} {c : Nat} {l : List Int} (hb : Below w.heap.size w w1) (ho : Own 5 w1 w.heap.size (.slice ao l.length c) l) (hn : ao = none → c = 0) :
    ∃ G', PD F G' w1 R cap beg log ∧ RdG w1 G' ao c l ∧ Grown G G' w := by
  refine ⟨fun k => G k ∨ ∃ a, ao = some a ∧ a.block = k, (h.below hb).wider (fun k hk => .inl hk) ?_ ?_, ⟨ho.rd, hn, fun a ha => .inr ⟨a, ha, rfl⟩⟩, ?_⟩
  · rintro k hF (hG | ⟨a, ha, rfl⟩)
    · exact h.apart k hF hG
    · have := (ho.blk a ha).1
      have := h.uF _ hF
      omega
  · rintro k (hG | ⟨a, ha, rfl⟩)
    · exact Nat.lt_of_lt_of_le (h.uG k hG) hb.size
    · exact (ho.blk a ha).2
  · rintro k (hG | ⟨a, ha, rfl⟩)
    · exact .inl hG
    · exact .inr (ho.blk a ha).1

set_option maxHeartbeats 400000 in
set_option maxRecDepth 100000 in
theorem lay_call (h : PD F G w R cap beg log) (ar : Int) (ao : Option Addr) (c : Nat) (l : List Int) (hr : Rd w ao l) (hn : ao = none → c = 0) (hu : U8 l) (hl : l.length ≤ 140737488355328) (hlog : log.length < 1000000) :
    Calls Try.prog 13 #[.pointer (some ⟨R, 0, none⟩), .int .i64 ar, .slice ao l.length c] w fun e w' => e = .returned (.int .i64 (layE cap (plays beg log) ar l)) ∧ Next F G w R cap beg (layL cap (plays beg log) ar l log) w' := by
  have h0 := h.cap0
  have hp := h.pos
  have hm := h.most
  have hfn := h.fits.now
  by_cases ha : ar = 0 ∨ ar = 1
  · by_cases hfull : cap - (((plays beg log).at ar).length : Nat) < (l.length : Nat)
    · have HE : Hid (layE cap (plays beg log) ar l = 8) := by show layE _ _ _ _ = _; unfold layE; rw [if_pos ha, if_pos hfull]
      have HL : Hid (layL cap (plays beg log) ar l log = log) := by show layL _ _ _ _ _ = _; unfold layL; rw [HE.out]; rfl
      have hd : decide (cap - (((plays beg log).at ar).length : Nat) < (l.length : Nat)) = true := by simpa using hfull
      have H := hide h
      have HA := hide ha
      clear h hfn ha
      go_enter Try.func13, Try.ntmps13
      go_wp2_with (first | (go_at_call 36; refine (there_yes R cap _ h0 hp).mono ?_; rintro e w1 ⟨rfl, rfl⟩) | (go_at_call 25; refine (isArea_yes ar _ HA.out).mono ?_; rintro e w1 ⟨rfl, rfl⟩) | (go_at_call 22; refine (room_yes H.out ar HA.out).mono ?_; rintro e w1 ⟨rfl, nq, rfl⟩))
      go_ret
      rw [HE.out, HL.out]
      exact ⟨rfl, Next.same H.out nq⟩
    · have HE : Hid (layE cap (plays beg log) ar l = 0) := by show layE _ _ _ _ = _; unfold layE; rw [if_pos ha, if_neg hfull]
      have HL : Hid (layL cap (plays beg log) ar l log = log ++ [⟨1, ar, l⟩]) := by show layL _ _ _ _ _ = _; unfold layL; rw [HE.out]; rfl
      have hd : decide (cap - (((plays beg log).at ar).length : Nat) < (l.length : Nat)) = false := by simpa using hfull
      have hfit := hide (hfn.lay (l := l) ha (by omega) hu)
      have hok : Ok ⟨1, ar, l⟩ := ⟨.inl rfl, ha, hu, by simp only; omega, by simp, by simp⟩
      have H := hide h
      have HA := hide ha
      clear h hfn ha hfull
      go_enter Try.func13, Try.ntmps13
      go_wp2_with (first | (go_at_call 36; refine (there_yes R cap _ h0 hp).mono ?_; rintro e w1 ⟨rfl, rfl⟩) | (go_at_call 25; refine (isArea_yes ar _ HA.out).mono ?_; rintro e w1 ⟨rfl, rfl⟩) | (go_at_call 22; refine (room_yes H.out ar HA.out).mono ?_; rintro e w1 ⟨rfl, nq, rfl⟩) | (go_at_call 26; refine (clone_any ao c l _ (hr.drewN nq) hn hl).mono ?_; rintro e w2 ⟨ao2, c2, rfl, ho2, hn2, hb2⟩; obtain ⟨G2, hP2, hG2, hgr2⟩ := (H.out.drewN nq).beside hb2 ho2 hn2) | (go_at_call 37; refine (hP2.do ⟨1, ar, l⟩ ao2 c2 hok hG2 hfit.out hlog).mono ?_; rintro e w3 ⟨⟨v, rfl⟩, F3, hP3, hon3, hgr3⟩))
      go_ret
      rw [HE.out, HL.out]
      have hs : w.heap.size ≤ w2.heap.size := hb2.size
      refine ⟨rfl, F3, G2, hP3, ?_, fun k hk => ?_, hgr2⟩
      · exact (((Only.ofBelow ((below_drew w nq).trans hb2)).mono (D := F) (fun _ _ h => h.elim))).trans hon3 (fun _ _ h => h)
      · rcases hgr3 k hk with q | q
        · exact .inl q
        · exact .inr (by omega)
  · have HE : Hid (layE cap (plays beg log) ar l = 2) := by show layE _ _ _ _ = _; unfold layE; rw [if_neg ha]
    have HL : Hid (layL cap (plays beg log) ar l log = log) := by show layL _ _ _ _ _ = _; unfold layL; rw [HE.out]; rfl
    have H := hide h
    have HA := hide ha
    clear h hfn ha
    go_enter Try.func13, Try.ntmps13
    go_wp2_with (first | (go_at_call 36; refine (there_yes R cap _ h0 hp).mono ?_; rintro e w1 ⟨rfl, rfl⟩) | (go_at_call 25; refine (isArea_no ar _ HA.out).mono ?_; rintro e w1 ⟨rfl, rfl⟩))
    go_ret
    rw [HE.out, HL.out]
    exact ⟨rfl, Next.stay H.out⟩

set_option maxHeartbeats 400000 in
set_option maxRecDepth 100000 in
theorem clear_call (h : PD F G w R cap beg log) (ar : Int) (hlog : log.length < 1000000) :
    Calls Try.prog 14 #[.pointer (some ⟨R, 0, none⟩), .int .i64 ar] w fun e w' => e = .returned (.int .i64 (clearE ar)) ∧ Next F G w R cap beg (clearL ar log) w' := by
  have h0 := h.cap0
  have hp := h.pos
  have hfn := h.fits.now
  by_cases ha : ar = 0 ∨ ar = 1
  · have HE : Hid (clearE ar = 0) := by show clearE _ = _; unfold clearE; rw [if_pos ha]
    have HL : Hid (clearL ar log = log ++ [⟨2, ar, []⟩]) := by show clearL _ _ = _; unfold clearL; rw [HE.out]; rfl
    have hfit := hide (hfn.clear (l := []) ha (by omega))
    have hok : Ok ⟨2, ar, []⟩ := ⟨.inr (.inl rfl), ha, U8.nil, by simp, fun _ => rfl, by simp⟩
    have hG : RdG w G none 0 [] := ⟨Rd.nil _ _, by simp, by simp⟩
    have H := hide h
    have HA := hide ha
    clear h hfn ha
    go_enter Try.func14, Try.ntmps14
    go_wp2_with (first | (go_at_call 36; refine (there_yes R cap _ h0 hp).mono ?_; rintro e w1 ⟨rfl, rfl⟩) | (go_at_call 25; refine (isArea_yes ar _ HA.out).mono ?_; rintro e w1 ⟨rfl, rfl⟩) | (go_at_call 37; refine (H.out.do ⟨2, ar, []⟩ none 0 hok hG hfit.out hlog).mono ?_; rintro e w3 ⟨⟨v, rfl⟩, F3, hP3, hon3, hgr3⟩))
    go_ret
    rw [HE.out, HL.out]
    exact ⟨rfl, F3, G, hP3, hon3, hgr3, Grown.refl _ _⟩
  · have HE : Hid (clearE ar = 2) := by show clearE _ = _; unfold clearE; rw [if_neg ha]
    have HL : Hid (clearL ar log = log) := by show clearL _ _ = _; unfold clearL; rw [HE.out]; rfl
    have H := hide h
    have HA := hide ha
    clear h hfn ha
    go_enter Try.func14, Try.ntmps14
    go_wp2_with (first | (go_at_call 36; refine (there_yes R cap _ h0 hp).mono ?_; rintro e w1 ⟨rfl, rfl⟩) | (go_at_call 25; refine (isArea_no ar _ HA.out).mono ?_; rintro e w1 ⟨rfl, rfl⟩))
    go_ret
    rw [HE.out, HL.out]
    exact ⟨rfl, Next.stay H.out⟩

set_option maxHeartbeats 400000 in
set_option maxRecDepth 100000 in
theorem turn_call (h : PD F G w R cap beg log) (hlog : log.length < 1000000) :
    Calls Try.prog 15 #[.pointer (some ⟨R, 0, none⟩)] w fun e w' => e = .returned (.int .i64 0) ∧ Next F G w R cap beg (log ++ [⟨3, 0, []⟩]) w' := by
  have h0 := h.cap0
  have hp := h.pos
  have hfit := hide (h.fits.now.turn (ar := 0) (l := []))
  have hok : Ok ⟨3, 0, []⟩ := ⟨.inr (.inr rfl), .inl rfl, U8.nil, by simp, by simp, fun _ => ⟨rfl, rfl⟩⟩
  have hG : RdG w G none 0 [] := ⟨Rd.nil _ _, by simp, by simp⟩
  have H := hide h
  clear h
  go_enter Try.func15, Try.ntmps15
  go_wp2_with (first | (go_at_call 36; refine (there_yes R cap _ h0 hp).mono ?_; rintro e w1 ⟨rfl, rfl⟩) | (go_at_call 37; refine (H.out.do ⟨3, 0, []⟩ none 0 hok hG hfit.out hlog).mono ?_; rintro e w3 ⟨⟨v, rfl⟩, F3, hP3, hon3, hgr3⟩))
  go_ret
  exact ⟨rfl, F3, G, hP3, hon3, hgr3, Grown.refl _ _⟩
end
end Go.Proofs.Ytfaceimamipbpaa
