/-
  WALKS over the document's own disk: Copy, Of, Lay, Clear, Turn, SameWrite.
-/
import Derived.Test.YtfaceimamipbpaaRef
import Derived.Test.YtfaceimamipbpaaOf
namespace Go.Proofs.Ytfaceimamipbpaa
open Go.RowKit
set_option linter.unusedSimpArgs false

set_option maxHeartbeats 400000 in
set_option maxRecDepth 100000 in
theorem rcopy_any (ao : Option Addr) (c : Nat) (l : List Int) (w : World) (hr : Rd w ao l) (hn : ao = none → c = 0) (hl : l.length ≤ 140737488355328) :
    Calls Try.prog 28 #[.slice ao l.length c] w fun e w' => Made 5 w w' e l := by
  obtain ⟨i0, hi, hz0, hz1, hz2⟩ := info_parts Try.info5
  go_enter Try.func28, Try.ntmps28
  go_wp2_with (refine wpList_append_rd (w := w) rfl (.const (.slice none 0 0)) (.tmp 3) 22 rfl w.heap.size 5 i0 Try.underlying22 hi hz0 hz1 hz2 (.slice none 0 0) [] rfl (Own.nil _ _ _) ao c l rfl hn hr (by simpa using hl) (Nat.le_refl _) ?_; intro ao2 cap2 w2 hown2 hg2 hnil2)
  go_ret
  refine ⟨ao2, cap2, by simp, by simpa using hown2, hnil2, ?_⟩
  exact (Below.refl _ w).grown hg2 (Nat.le_refl _) (fun k hk => by simp [Value.ownBlock] at hk)

/-- The document's disk at block R. -/
structure RD (F G : Nat → Prop) (w : World) (R : Nat) (cap : Int) (beg : St) (log : List Wr) : Prop where
  disk : Disk refL 70 F G w R cap beg (plays beg log) log
  fits : Fits cap beg log
  pos : 0 < cap
  most : cap ≤ 1048576
section
variable {F G : Nat → Prop} {w w' : World} {R : Nat} {cap : Int} {beg : St} {log : List Wr}
theorem RD.only (h : RD F G w R cap beg log) {D : Nat → Prop} (k : Only D w w') (hF : Apart D F) (hG : Apart D G) : RD F G w' R cap beg log := by
  obtain ⟨x0, c0, x1, c1, va, vb, vl, xs, hr⟩ := h.disk
  exact ⟨⟨x0, c0, x1, c1, va, vb, vl, xs, hr.only k hF hG⟩, h.fits, h.pos, h.most⟩
theorem RD.below (h : RD F G w R cap beg log) (k : Below w.heap.size w w') : RD F G w' R cap beg log :=
  h.only (Only.ofBelow k) (fun _ d => d.elim) (fun _ d => d.elim)
theorem RD.drewN (h : RD F G w R cap beg log) (n : Nat) : RD F G (w.drewN n) R cap beg log := h.below (below_drew w n)
theorem RD.uF (h : RD F G w R cap beg log) : Under F w.heap.size := by obtain ⟨x0, c0, x1, c1, va, vb, vl, xs, hr⟩ := h.disk; exact hr.uF
theorem RD.uG (h : RD F G w R cap beg log) : Under G w.heap.size := by obtain ⟨x0, c0, x1, c1, va, vb, vl, xs, hr⟩ := h.disk; exact hr.uG
theorem RD.apart (h : RD F G w R cap beg log) : Apart F G := by obtain ⟨x0, c0, x1, c1, va, vb, vl, xs, hr⟩ := h.disk; exact hr.apart
theorem RD.fR (h : RD F G w R cap beg log) : F R := by obtain ⟨x0, c0, x1, c1, va, vb, vl, xs, hr⟩ := h.disk; exact hr.fR
theorem RD.lt (h : RD F G w R cap beg log) : R < w.heap.size := h.uF R h.fR
theorem RD.wider (h : RD F G w R cap beg log) {G' : Nat → Prop} (hG : ∀ k, G k → G' k) (ha : Apart F G') (hu : Under G' w.heap.size) : RD F G' w R cap beg log := by
  obtain ⟨x0, c0, x1, c1, va, vb, vl, xs, hr⟩ := h.disk
  exact ⟨⟨x0, c0, x1, c1, va, vb, vl, xs, hr.wider hG ha hu⟩, h.fits, h.pos, h.most⟩
theorem RD.beside (h : RD F G w R cap beg log) {w1 : World} {ao : Option Addr} {c : Nat} {l : List Int} (hb : Below w.heap.size w w1) (ho : Own 5 w1 w.heap.size (.slice ao l.length c) l) (hn : ao = none → c = 0) :
    ∃ G', RD F G' w1 R cap beg log ∧ RdG w1 G' ao c l ∧ Grown G G' w := by
  refine ⟨fun k => G k ∨ ∃ a, ao = some a ∧ a.block = k, (h.below hb).wider (fun k hk => .inl hk) ?_ ?_, ⟨ho.rd, hn, fun a ha => .inr ⟨a, ha, rfl⟩⟩, ?_⟩
  · rintro k hF (hG | ⟨a, ha, rfl⟩)
    · exact h.apart k hF hG
    · have := (ho.blk a ha).1
      have := h.uF _ hF
      omega
  · rintro k (hG | ⟨a, ha, rfl⟩)
    · exact Nat.lt_of_lt_of_le (h.uG k hG) hb.size
    · exact (ho.blk a ha).2
  · rintro k (hG | ⟨a, ha, rfl⟩)
    · exact .inl hG
    · exact .inr (ho.blk a ha).1
/-- The cells that are looked at. -/
theorem RD.look (h : RD F G w R cap beg log) : ∃ x0 c0 x1 c1 va vb vl xs, w.cell? ⟨R, 0, none⟩ = some (.int .i64 cap) ∧ w.cell? ⟨R, 1, none⟩ = some (.int .i64 (plays beg log).u) ∧ w.cell? ⟨R, 2, none⟩ = some (.int .i64 beg.u) ∧ w.cell? ⟨R, 3, none⟩ = some va ∧ w.cell? ⟨R, 4, none⟩ = some vb ∧
    w.cell? ⟨R, 5, none⟩ = some (.slice x0 beg.a0.length c0) ∧ w.cell? ⟨R, 6, none⟩ = some (.slice x1 beg.a1.length c1) ∧ w.cell? ⟨R, 7, none⟩ = some vl ∧ RdG w G x0 c0 beg.a0 ∧ RdG w G x1 c1 beg.a1 ∧
    Own 5 w 0 va (plays beg log).a0 ∧ Own 5 w 0 vb (plays beg log).a1 ∧ w.ownsRow 0 50 3 vl log.length xs ∧ Items w G log xs := by
  obtain ⟨x0, c0, x1, c1, va, vb, vl, xs, hr⟩ := h.disk
  refine ⟨x0, c0, x1, c1, va, vb, vl, xs, ?_, ?_, ?_, ?_, ?_, ?_, ?_, ?_, hr.r0, hr.r1, hr.o0, hr.o1, hr.ol, hr.it⟩
  all_goals (rw [cell_of_row w R _ _ 70 (0, 0) hr.cells]; rfl)
/-- A raw write is done and kept. -/
theorem RD.do (h : RD F G w R cap beg log) (x : Wr) (ao : Option Addr) (c : Nat) (hx : Ok x) (hG : RdG w G ao c x.data) (hf : Fit cap (play (plays beg log) x)) (hlog : log.length < 1000000) :
    Calls Try.prog 42 #[.pointer (some ⟨R, 0, none⟩), wrv x.kind x.area ao x.data.length c] w fun e w' => (∃ v, e = .returned v) ∧ ∃ F', RD F' G w' R cap beg (log ++ [x]) ∧ Only F w w' ∧ Grown F F' w := by
  obtain ⟨x0, c0, x1, c1, va, vb, vl, xs, hr⟩ := h.disk
  have hm := h.most
  have key : Calls Try.prog 42 #[.pointer (some ⟨R, 0, none⟩), wrv x.kind x.area ao x.data.length c] w fun e w' => (∃ v, e = .returned v) ∧ ∃ F', Disk refL 70 F' G w' R cap beg (play (plays beg log) x) (log ++ [x]) ∧ Only F w w' ∧ Grown F F' w := by
    obtain ⟨k, a, l⟩ := x
    have ha := hx.area
    rcases hx.kind with h1 | h1 | h1
    · simp only at h1 ha; subst h1
      have h2 := hf.at (ar := a)
      rcases ha with rfl | rfl
      · exact rdo10 ao c l hr hG (by rw [play_lay] at h2; simp [St.at, St.put] at h2; omega) hlog
      · exact rdo11 ao c l hr hG (by rw [play_lay] at h2; simp [St.at, St.put] at h2; omega) hlog
    · simp only at h1 ha; subst h1
      rcases ha with rfl | rfl
      · exact rdo20 ao c l hr hG hlog
      · exact rdo21 ao c l hr hG hlog
    · simp only at h1; subst h1
      exact rdo3 a ao c l hr hG h.fits.now.u hlog
  refine key.mono ?_
  rintro e w' ⟨hv, F', hd, ho, hg⟩
  exact ⟨hv, F', ⟨by rw [plays_snoc]; exact hd, h.fits.snoc hx hf, h.pos, h.most⟩, ho, hg⟩

/-- What a call leaves of the document's disk. -/
def RNext (F G : Nat → Prop) (w : World) (R : Nat) (cap : Int) (beg : St) (log' : List Wr) (w' : World) : Prop :=
  ∃ F' G', RD F' G' w' R cap beg log' ∧ Only F w w' ∧ Grown F F' w ∧ Grown G G' w
theorem RNext.same (h : RD F G w R cap beg log) (n : Nat) : RNext F G w R cap beg log (w.drewN n) := ⟨F, G, h.drewN n, (Only.refl F w).drewN n, Grown.refl _ _, Grown.refl _ _⟩
theorem RNext.stay (h : RD F G w R cap beg log) : RNext F G w R cap beg log w := ⟨F, G, h, Only.refl F w, Grown.refl _ _, Grown.refl _ _⟩

set_option maxHeartbeats 1000000 in
set_option maxRecDepth 100000 in
theorem rlay_call (h : RD F G w R cap beg log) (ar : Int) (ao : Option Addr) (c : Nat) (l : List Int) (hr : Rd w ao l) (hn : ao = none → c = 0) (hu : U8 l) (hl : l.length ≤ 140737488355328) (hlog : log.length < 1000000) :
    Calls Try.prog 32 #[.pointer (some ⟨R, 0, none⟩), .int .i64 ar, .slice ao l.length c] w fun e w' => e = .returned (.int .i64 (layE cap (plays beg log) ar l)) ∧ RNext F G w R cap beg (layL cap (plays beg log) ar l log) w' := by
  obtain ⟨x0, c0, x1, c1, va, vb, vl, xs, h0, h1, h2, h3, h4, h5, h6, h7, _, _, o0, o1, _, _⟩ := h.look
  have hp := h.pos
  have hm := h.most
  have hfn := h.fits.now
  have k0 := hfn.l0
  have k1 := hfn.l1
  obtain ⟨a0, d0, rfl, _⟩ := o0.form
  obtain ⟨a1, d1, rfl, _⟩ := o1.form
  have H := hide h
  by_cases ha : ar = 0 ∨ ar = 1
  · by_cases hfull : cap - (((plays beg log).at ar).length : Nat) < (l.length : Nat)
    · have HE : Hid (layE cap (plays beg log) ar l = 8) := by show layE _ _ _ _ = _; unfold layE; rw [if_pos ha, if_pos hfull]
      have HL : Hid (layL cap (plays beg log) ar l log = log) := by show layL _ _ _ _ _ = _; unfold layL; rw [HE.out]; rfl
      clear h hfn o0 o1
      rcases ha with rfl | rfl
      · have hd : decide (cap - ((plays beg log).a0.length : Nat) < (l.length : Nat)) = true := by simpa [St.at] using hfull
        clear hfull
        go_enter Try.func32, Try.ntmps32
        go_wp2
        go_quiet (fail)
        go_wp2
        go_ret
        rw [HE.out, HL.out]
        exact ⟨rfl, RNext.same H.out _⟩
      · have hd : decide (cap - ((plays beg log).a1.length : Nat) < (l.length : Nat)) = true := by simpa [St.at] using hfull
        clear hfull
        go_enter Try.func32, Try.ntmps32
        go_wp2
        go_quiet (fail)
        go_wp2
        go_ret
        rw [HE.out, HL.out]
        exact ⟨rfl, RNext.same H.out _⟩
    · have HE : Hid (layE cap (plays beg log) ar l = 0) := by show layE _ _ _ _ = _; unfold layE; rw [if_pos ha, if_neg hfull]
      have HL : Hid (layL cap (plays beg log) ar l log = log ++ [⟨1, ar, l⟩]) := by show layL _ _ _ _ _ = _; unfold layL; rw [HE.out]; rfl
      have hfit := hide (hfn.lay (l := l) ha (by omega) hu)
      have hok : Ok ⟨1, ar, l⟩ := ⟨.inl rfl, ha, hu, by simp only; omega, by simp, by simp⟩
      clear h hfn o0 o1
      have hcopy : ∀ nq, Calls Try.prog 28 #[.slice ao l.length c] (w.drewN nq) fun e w2 => ∃ ao2 c2 G2, e = .returned (.slice ao2 l.length c2) ∧ Below (w.drewN nq).heap.size (w.drewN nq) w2 ∧ RD F G2 w2 R cap beg log ∧ RdG w2 G2 ao2 c2 l ∧ Grown G G2 w := fun nq => by
        refine (rcopy_any ao c l _ (hr.drewN nq) hn hl).mono ?_
        rintro e w2 ⟨ao2, c2, rfl, ho2, hn2, hb2⟩
        obtain ⟨G2, q1, q2, q3⟩ := (H.out.drewN nq).beside hb2 ho2 hn2
        exact ⟨ao2, c2, G2, rfl, hb2, q1, q2, q3⟩
      rcases ha with rfl | rfl
      · have hd : decide (cap - ((plays beg log).a0.length : Nat) < (l.length : Nat)) = false := by simpa [St.at] using hfull
        clear hfull
        go_enter Try.func32, Try.ntmps32
        go_wp2
        go_quiet (fail)
        go_wp2_with (first | (go_at_call 28; refine (hcopy nq).mono ?_; rintro e w2 ⟨ao2, c2, G2, rfl, hb2, hP2, hG2, hgr2⟩) | (go_at_call 42; refine (hP2.do ⟨1, 0, l⟩ ao2 c2 hok hG2 hfit.out hlog).mono ?_; rintro e w3 ⟨⟨v, rfl⟩, F3, hP3, hon3, hgr3⟩))
        go_ret
        rw [HE.out, HL.out]
        have hs : w.heap.size ≤ w2.heap.size := hb2.size
        refine ⟨rfl, F3, G2, hP3, (((Only.ofBelow ((below_drew w nq).trans hb2)).mono (D := F) (fun _ _ h => h.elim))).trans hon3 (fun _ _ h => h), fun k hk => ?_, hgr2⟩
        rcases hgr3 k hk with q | q
        · exact .inl q
        · exact .inr (by omega)
      · have hd : decide (cap - ((plays beg log).a1.length : Nat) < (l.length : Nat)) = false := by simpa [St.at] using hfull
        clear hfull
        go_enter Try.func32, Try.ntmps32
        go_wp2
        go_quiet (fail)
        go_wp2_with (first | (go_at_call 28; refine (hcopy nq).mono ?_; rintro e w2 ⟨ao2, c2, G2, rfl, hb2, hP2, hG2, hgr2⟩) | (go_at_call 42; refine (hP2.do ⟨1, 1, l⟩ ao2 c2 hok hG2 hfit.out hlog).mono ?_; rintro e w3 ⟨⟨v, rfl⟩, F3, hP3, hon3, hgr3⟩))
        go_ret
        rw [HE.out, HL.out]
        have hs : w.heap.size ≤ w2.heap.size := hb2.size
        refine ⟨rfl, F3, G2, hP3, (((Only.ofBelow ((below_drew w nq).trans hb2)).mono (D := F) (fun _ _ h => h.elim))).trans hon3 (fun _ _ h => h), fun k hk => ?_, hgr2⟩
        rcases hgr3 k hk with q | q
        · exact .inl q
        · exact .inr (by omega)
  · have HE : Hid (layE cap (plays beg log) ar l = 2) := by show layE _ _ _ _ = _; unfold layE; rw [if_neg ha]
    have HL : Hid (layL cap (plays beg log) ar l log = log) := by show layL _ _ _ _ _ = _; unfold layL; rw [HE.out]; rfl
    clear h hfn o0 o1
    by_cases hneg : ar < 0
    · have hd : decide (ar < 0) = true := by simpa using hneg
      go_enter Try.func32, Try.ntmps32
      go_wp2
      go_ret
      rw [HE.out, HL.out]
      exact ⟨rfl, RNext.stay H.out⟩
    · have hd : decide (ar < 0) = false := by simpa using hneg
      have hd1 : decide (1 < ar) = true := by simp; omega
      go_enter Try.func32, Try.ntmps32
      go_wp2
      go_ret
      rw [HE.out, HL.out]
      exact ⟨rfl, RNext.stay H.out⟩

set_option maxHeartbeats 1000000 in
set_option maxRecDepth 100000 in
theorem rclear_call (h : RD F G w R cap beg log) (ar : Int) (hlog : log.length < 1000000) :
    Calls Try.prog 33 #[.pointer (some ⟨R, 0, none⟩), .int .i64 ar] w fun e w' => e = .returned (.int .i64 (clearE ar)) ∧ RNext F G w R cap beg (clearL ar log) w' := by
  have hp := h.pos
  have hfn := h.fits.now
  have H := hide h
  by_cases ha : ar = 0 ∨ ar = 1
  · have HE : Hid (clearE ar = 0) := by show clearE _ = _; unfold clearE; rw [if_pos ha]
    have HL : Hid (clearL ar log = log ++ [⟨2, ar, []⟩]) := by show clearL _ _ = _; unfold clearL; rw [HE.out]; rfl
    have hfit := hide (hfn.clear (l := []) ha (by omega))
    have hok : Ok ⟨2, ar, []⟩ := ⟨.inr (.inl rfl), ha, U8.nil, by simp, fun _ => rfl, by simp⟩
    have hG : RdG w G none 0 [] := ⟨Rd.nil _ _, by simp, by simp⟩
    have hd : decide (ar < 0) = false := by simp; omega
    have hd1 : decide (1 < ar) = false := by simp; omega
    clear h hfn ha
    go_enter Try.func33, Try.ntmps33
    go_wp2_with (go_at_call 42; refine (H.out.do ⟨2, ar, []⟩ none 0 hok hG hfit.out hlog).mono ?_; rintro e w3 ⟨⟨v, rfl⟩, F3, hP3, hon3, hgr3⟩)
    go_ret
    rw [HE.out, HL.out]
    exact ⟨rfl, F3, G, hP3, hon3, hgr3, Grown.refl _ _⟩
  · have HE : Hid (clearE ar = 2) := by show clearE _ = _; unfold clearE; rw [if_neg ha]
    have HL : Hid (clearL ar log = log) := by show clearL _ _ = _; unfold clearL; rw [HE.out]; rfl
    clear h hfn
    by_cases hneg : ar < 0
    · have hd : decide (ar < 0) = true := by simpa using hneg
      go_enter Try.func33, Try.ntmps33
      go_wp2
      go_ret
      rw [HE.out, HL.out]
      exact ⟨rfl, RNext.stay H.out⟩
    · have hd : decide (ar < 0) = false := by simpa using hneg
      have hd1 : decide (1 < ar) = true := by simp; omega
      go_enter Try.func33, Try.ntmps33
      go_wp2
      go_ret
      rw [HE.out, HL.out]
      exact ⟨rfl, RNext.stay H.out⟩
set_option maxHeartbeats 400000 in
set_option maxRecDepth 100000 in
theorem rturn_call (h : RD F G w R cap beg log) (hlog : log.length < 1000000) :
    Calls Try.prog 34 #[.pointer (some ⟨R, 0, none⟩)] w fun e w' => e = .returned (.int .i64 0) ∧ RNext F G w R cap beg (log ++ [⟨3, 0, []⟩]) w' := by
  have hfit := hide (h.fits.now.turn (ar := 0) (l := []))
  have hok : Ok ⟨3, 0, []⟩ := ⟨.inr (.inr rfl), .inl rfl, U8.nil, by simp, by simp, fun _ => ⟨rfl, rfl⟩⟩
  have hG : RdG w G none 0 [] := ⟨Rd.nil _ _, by simp, by simp⟩
  have H := hide h
  clear h
  go_enter Try.func34, Try.ntmps34
  go_wp2_with (go_at_call 42; refine (H.out.do ⟨3, 0, []⟩ none 0 hok hG hfit.out hlog).mono ?_; rintro e w3 ⟨⟨v, rfl⟩, F3, hP3, hon3, hgr3⟩)
  go_ret
  exact ⟨rfl, F3, G, hP3, hon3, hgr3, Grown.refl _ _⟩
end
end Go.Proofs.Ytfaceimamipbpaa
