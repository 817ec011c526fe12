/-
  tagset: found (130), what it goes over (182).
  tagset: keys taken away one by one.
-/
import Derived.Test.YtkkpdgfllnbigaaGreatDoorMg18
import Derived.Test.YtkkpdgfllnbigaaGreatDoorMg9
namespace Go.Proofs.YtkkpdgfllnbigaaGreatDoor.Tg
open Go.RowKit Go.Shelf
set_option linter.unusedSimpArgs false
attribute [local go_sem] Oper.semAt_some

/-- The first ones as long as one may. -/
theorem tw_at {α : Type} {p : α → Bool} : ∀ (l : List α) (c : Nat) (x : α), (∀ j y, j < c → l[j]? = some y → p y = true) → l[c]? = some x → p x = true → (l.takeWhile p)[c]? = some x
  | [], c, x, _, h, _ => by simp at h
  | a :: l, 0, x, _, h, hp => by
    simp at h
    subst h
    rw [List.takeWhile_cons_of_pos hp]
    rfl
  | a :: l, c + 1, x, hall, h, hp => by
    rw [List.takeWhile_cons_of_pos (hall 0 a (by omega) rfl)]
    exact tw_at l c x (fun j y hj hy => hall (j + 1) y (by omega) hy) h hp
theorem tw_stop {α : Type} {p : α → Bool} : ∀ (l : List α) (c : Nat) (x : α), (∀ j y, j < c → l[j]? = some y → p y = true) → l[c]? = some x → p x = false → (l.takeWhile p).length = c
  | [], c, x, _, h, _ => by simp at h
  | a :: l, 0, x, _, h, hp => by
    simp at h
    subst h
    rw [List.takeWhile_cons_of_neg (by simp [hp])]
    rfl
  | a :: l, c + 1, x, hall, h, hp => by
    rw [List.takeWhile_cons_of_pos (hall 0 a (by omega) rfl), List.length_cons, tw_stop l c x (fun j y hj hy => hall (j + 1) y (by omega) hy) h hp]
theorem tw_all {α : Type} {p : α → Bool} : ∀ (l : List α), (∀ j y, j < l.length → l[j]? = some y → p y = true) → l.takeWhile p = l
  | [], _ => rfl
  | a :: l, hall => by
    rw [List.takeWhile_cons_of_pos (hall 0 a (by simp) rfl), tw_all l (fun j y hj hy => hall (j + 1) y (by simpa using hj) hy)]
theorem found130 {pm : Option Addr} (X : ByteArray) (w : World) : Calls Tryz.prog 33 #[.agg #[.pointer pm], .string X] w fun e w' => e = .returned (.func (.func 53) #[] #[.pointer (some ⟨w.heap.size, 0, none⟩), .pointer (some ⟨w.heap.size + 1, 0, none⟩)]) ∧ w' = (w.alloc (.cells #[.pointer pm] 43)).alloc (.cells #[.string X] 9) := by
  go_enter Tryz.func33, Tryz.ntmps33
  go_wp2
  go_ret
  exact ⟨rfl, rfl⟩
theorem enters53 : Enters Tryz.prog 53 := enters_of Tryz.func53 (by kernel_rfl) rfl
def KB (t : Pm.T) (Lm Lx : Nat) : Nat → Prop := fun j => j = Lm ∨ j = Lx ∨ t.blk j
def encF (X : ByteArray) (x : Kv) : Array Value := #[.string x.1, svT (tgS x.1 X)]
set_option maxHeartbeats 8000000 in
set_option maxRecDepth 100000 in
theorem iterFound (X : ByteArray) (hX : txtB X = true) (t : Pm.T) (Lm Lx : Nat) (w : World) (ht : Pm.In w t) (hs : Pm.Srt t.list) (hk : ∀ x ∈ t.list, x.1.size ≤ 9223372036854775807) (hLm : w.cell? ⟨Lm, 0, none⟩ = some t.ptr) (hLx : w.cell? ⟨Lx, 0, none⟩ = some (.string X)) :
    IterB 53 #[.pointer (some ⟨Lm, 0, none⟩), .pointer (some ⟨Lx, 0, none⟩)] (foundL X t.list) (encF X) (KB t Lm Lx) w := by
  intro f D J Jx W hS hsz hDK hDlt hJB hJx hY hJ0
  have hKw : ∀ j, KB t Lm Lx j → j < w.heap.size := fun j hj => by
    rcases hj with rfl | rfl | hj
    · exact World.block_lt_of_cell? w _ hLm
    · exact World.block_lt_of_cell? w _ hLx
    · exact ht.blk_lt hj
  have hcM : W.cell? ⟨Lm, 0, none⟩ = some t.ptr := hS.cell (.inl rfl) hLm
  have hcX : W.cell? ⟨Lx, 0, none⟩ = some (.string X) := hS.cell (.inr (.inl rfl)) hLx
  have iW : Pm.In W t := Pm.In.same ht (fun j hj => hS j (.inr (.inr hj)))
  obtain ⟨W1, hW1⟩ : ∃ W1, W1 = W.alloc (.cells #[.func (.yield f) #[] #[]] 102) := ⟨_, rfl⟩
  have y1 := heap_alloc_new W (.cells #[.func (.yield f) #[] #[]] 102)
  rw [← hW1] at y1
  have b1 : Below W.heap.size W W1 := by rw [hW1]; exact (Below.refl _ W).alloc (Nat.le_refl _) _
  have hcM1 := cell_stays hcM b1
  have hcX1 := cell_stays hcX b1
  obtain ⟨a, ha⟩ := t.ptr_shape
  obtain ⟨Yb, hYb⟩ : ∃ Yb, Yb = W.heap.size := ⟨_, rfl⟩
  have hfr := fun V => front165 X V (frB_size hX).1
  have hFrom := fun V => Pm.mFrom_any t (frB X) V
  simp only [Pm.mv, ha] at hFrom
  rw [ha] at hcM1
  obtain ⟨ls, hls⟩ : ∃ ls, ls = t.list.drop (Pm.pos (frB X) t.list) := ⟨_, rfl⟩
  obtain ⟨FL, hFL⟩ : ∃ FL, FL = foundL X t.list := ⟨_, rfl⟩
  have hfl : FL = ls.takeWhile fun x => tgV x.1 X := by rw [hFL, hls]; rfl
  rw [← hFL] at hY ⊢
  have hkl : ∀ x ∈ ls, x.1.size ≤ 9223372036854775807 := fun x hx => hk x (by rw [hls] at hx; exact List.mem_of_mem_drop hx)
  have HJ := hide (And.intro hS (And.intro hsz (And.intro hDK (And.intro hDlt (And.intro hJB (And.intro hJx (And.intro hY (And.intro hJ0 (And.intro hKw (And.intro iW (And.intro y1 (And.intro b1 ht))))))))))))
  have HT := hide (And.intro hs (And.intro hls (And.intro hfl (And.intro hkl ha))))
  have HYb := hide hYb
  have HW1 := hide hW1
  clear hS hsz hDK hDlt hJB hJx hY hJ0 hKw hcM hcX iW y1 b1 ht hs hk hLm hLx ha hls hfl hkl hYb hW1 hX hFL
  refine calls_marks Tryz.func53 rfl ?_
  simp only [Tryz.ntmps53, List.size_toArray, List.length_cons, List.length_nil, Nat.reduceAdd, Nat.reduceSub, Array.replicate_succ, Array.replicate_zero, List.push_toArray, List.append_toArray, List.nil_append, List.cons_append]
  go_wp2
  refine wp_scope_straight ?_
  go_wp2
  refine wp_label ?_
  go_upto_region 1 with fail
  rw [← HW1.out, ← HYb.out]
  refine wp_region_held_drew (S := fun w' => w'.cell? ⟨Lm, 0, none⟩ = some (.pointer a) ∧ w'.cell? ⟨Lx, 0, none⟩ = some (.string X) ∧ Hid (Below W1.heap.size W1 w')) (by kernel_rfl) (by exact ⟨hcM1, hcX1, hide (drew_below W1)⟩) (fun hHeld => ?_)
  try dsimp only at hHeld
  generalize W1.drew = Wd at hHeld ⊢
  refine take_op (i := 0) (d := 7) (OP := Op.load 43 (Operand.tmp 1)) (T := 43) (v := ?vzr1) rfl rfl rfl rfl (by kernel_rfl) (by kernel_rfl) (by kernel_rfl) (fun _ _ _ h => h) (by rfl) ?hzr1 hHeld ?rzr1
  case hzr1 => (intro w' hSw; (try dsimp only at hSw); go_simp <;> with_reducible rfl)
  try simp only [Act.put, sI, sZ, sS]
  refine take_op (i := 1) (d := 8) (OP := Op.load 9 (Operand.tmp 2)) (T := 9) (v := ?vzr2) rfl rfl rfl rfl (by kernel_rfl) (by kernel_rfl) (by kernel_rfl) (fun _ _ _ h => h) (by rfl) ?hzr2 hHeld ?rzr2
  case hzr2 => (intro w' hSw; (try dsimp only at hSw); go_simp <;> with_reducible rfl)
  try simp only [Act.put, sI, sZ, sS]
  refine call_op (i := 2) (d := 9) (OP := Op.call { callee := Callee.value (Operand.func 22), args := #[Operand.tmp 8], argTypes := #[9] }) (T := 9) (f := 22) (args := #[.string X]) rfl rfl rfl rfl (by kernel_rfl) (by rfl) (by go_simp) ?_
  refine (hfr _).mono ?_
  rintro e w2 ⟨rfl, b2⟩
  have q2 : w2.cell? ⟨Lm, 0, none⟩ = some (.pointer a) ∧ w2.cell? ⟨Lx, 0, none⟩ = some (.string X) ∧ Hid (Below W1.heap.size W1 w2) := ⟨cell_stays hHeld.1 b2, cell_stays hHeld.2.1 b2, hide (hHeld.2.2.out.trans (b2.mono hHeld.2.2.out.size))⟩
  refine ⟨_, rfl, q2, ?_⟩
  try simp only [Act.put, sI, sZ, sS]
  refine call_op (i := 3) (d := 10) (OP := Op.call { callee := Callee.value (Operand.func 54), args := #[Operand.tmp 7, Operand.tmp 9], argTypes := #[43, 9] }) (T := 104) (f := 54) (args := #[.agg #[.pointer a], .string (frB X)]) rfl rfl rfl rfl (by kernel_rfl) (by rfl) (by go_simp) ?_
  refine (hFrom w2).mono ?_
  rintro e wA ⟨rfl, hwA⟩
  obtain ⟨n0, n1⟩ := new2 w2 (.cells #[.pointer a] 43) (.cells #[.string (frB X)] 9)
  rw [← hwA] at n0 n1
  have bA : Below w2.heap.size w2 wA := by rw [hwA]; exact ((Below.refl _ w2).alloc (Nat.le_refl _) _).alloc (by simp) _
  have sA : wA.heap.size = w2.heap.size + 2 := by rw [hwA]; simp
  have qA : wA.cell? ⟨Lm, 0, none⟩ = some (.pointer a) ∧ wA.cell? ⟨Lx, 0, none⟩ = some (.string X) ∧ Hid (Below W1.heap.size W1 wA) := ⟨cell_stays q2.1 bA, cell_stays q2.2.1 bA, hide (q2.2.2.out.trans (bA.mono q2.2.2.out.size))⟩
  refine ⟨_, rfl, qA, ?_⟩
  try simp only [Act.put, sI, sZ, sS]
  refine wpAnyH_done (by kernel_rfl) ?_ _
  obtain ⟨hS, hsz, hDK, hDlt, hJB, hJx, hY, hJ0, hKw, iW, y1, b1, ht⟩ := HJ.out
  obtain ⟨hs, hls, hfl, hkl, ha⟩ := HT.out
  have hYb := HYb.out
  have b12 : Below W1.heap.size W1 wA := qA.2.2.out
  have bWA : Below W.heap.size W wA := b1.trans (b12.mono b1.size)
  have hW2 : W1.heap.size ≤ w2.heap.size := q2.2.2.out.size
  have hW1z : W.heap.size < W1.heap.size := (gI y1).1
  have cLA : wA.cell? ⟨w2.heap.size + 1, 0, none⟩ = some (.string (frB X)) := (cell_of_row _ _ 0 _ 9 (0, 0) n1).trans rfl
  have cMA : wA.cell? ⟨w2.heap.size, 0, none⟩ = some t.ptr := by rw [ha]; exact (cell_of_row _ _ 0 _ 43 (0, 0) n0).trans rfl
  have iA : Pm.In wA t := Pm.In.below bWA iW
  have hit := Pm.iter_from t (frB X) (w2.heap.size + 1) w2.heap.size wA iA cLA cMA
  rw [Pm.from_is _ hs, ← hls] at hit
  have hKlt : ∀ j, Pm.KF t (w2.heap.size + 1) w2.heap.size j → j < wA.heap.size := fun j hj => by
    rcases hj with rfl | rfl | hj
    · omega
    · omega
    · exact iA.blk_lt hj
  have hDne : ∀ j, D j → ¬ Pm.KF t (w2.heap.size + 1) w2.heap.size j := fun j d hj => by
    have := hDlt j d
    rcases hj with rfl | rfl | hj
    · omega
    · omega
    · exact hDK j d (.inr (.inr hj))
  have yA : wA.heap[Yb]? = some (.cells #[.func (.yield f) #[] #[]] 102 (0, 0)) := by
    rw [← hYb] at y1
    exact (b12.block _ (gI y1).1).trans y1
  have xA : wA.cell? ⟨Lx, 0, none⟩ = some (.string X) := qA.2.1
  have sAA : Pm.Same (KB t Lm Lx) w wA := hS.below hKw hsz bWA
  have HZ : Hid (wA.heap.size = w2.heap.size + 2 ∧ W.heap.size < w2.heap.size ∧ Yb = W.heap.size ∧ Yb < w2.heap.size ∧ w.heap.size ≤ W.heap.size) := hide ⟨sA, by omega, hYb, by omega, hsz⟩
  have hDout : ∀ j, wA.heap.size ≤ j → j < wA.heap.size + 4 → ¬ (D j ∨ wA.heap.size + 4 ≤ j) := fun j h1 h2 d => d.elim (fun d => by have := hDlt _ d; have := HZ.out; omega) (fun d => by omega)
  have HFL := hide hfl
  clear y1 b1 hcM1 hcX1 hW2 hW1z b12 cLA cMA iA sA n0 n1 bA qA q2 hHeld hfr hFrom hwA HJ HT hYb HYb HW1 b2 ht iW
  go_wp2
  refine Pm.range_it (Q := _) 82 enters82 _ ls (fun x => #[.string x.1, .string x.2]) _ hit rfl (fun _ _ => rfl) hKlt (fun j => D j ∨ wA.heap.size + 4 ≤ j) (fun j d => d.elim (hDne j) (fun d hj => by have := hKlt j hj; omega)) (hDout _ (by omega) (by omega)) (hDout _ (by omega) (by omega)) (hDout _ (by omega) (by omega)) (hDout _ (by omega) (by omega))
    (fun k W' => J (wA.heap.size + 4) k W' ∧ Pm.Same (KB t Lm Lx) w W' ∧ W'.heap[Yb]? = some (.cells #[.func (.yield f) #[] #[]] 102 (0, 0)) ∧ ∀ j y, j < k → ls[j]? = some y → tgV y.1 X = true) (fun cd W' => cd = .exit 0 ∧ (J (wA.heap.size + 4) FL.length W' ∨ Jx (wA.heap.size + 4) W'))
    (fun k A A' hi ho => ?hI) (fun c A A' hi ho => ⟨hi.1, hi.2.elim (fun h => .inl (hJB _ _ A A' (by have := HZ.out; omega) h (ho.mono (fun j _ e => by have e' : j = wA.heap.size + 1 := e; have := HZ.out; exact ⟨by omega, by omega⟩)))) (fun h => .inr (hJx _ A A' (by have := HZ.out; omega) h (ho.mono (fun j _ e => by have e' : j = wA.heap.size + 1 := e; have := HZ.out; exact ⟨by omega, by omega⟩))))⟩) ⟨hJ0 _ wA bWA (by omega), sAA, yA, fun j y hj => by omega⟩ ?hround ?hdone ?hstop
  case hI =>
    have hlt := (gI hi.2.2.1).1
    exact ⟨hJB _ k A A' (by have := HZ.out; omega) hi.1 (ho.mono (fun j _ e => by have e' : j = wA.heap.size + 1 := e; have := HZ.out; exact ⟨by omega, by omega⟩)), hi.2.1.only hKw (by have := HZ.out; omega) ho (fun j e hj => by have e' : j = wA.heap.size + 1 := e; have := hKw j hj; have := HZ.out; omega), (ho.block _ hlt (by have := HZ.out; omega)).trans hi.2.2.1, hi.2.2.2⟩
  case hdone =>
    rintro W' ⟨hj, -, -, hall⟩ hlt hk0
    have o1 := only_putObj W' wA.heap.size (.deferred none)
    have hj' := hJB _ _ _ _ (by have := HZ.out; omega) hj (o1.mono (fun j _ e => by have e' : j = wA.heap.size := e; have := HZ.out; exact ⟨by omega, by omega⟩))
    have htw := tw_all (p := fun x => tgV x.1 X) ls hall
    have HX := hide (And.intro hk0 (And.intro hj' htw))
    have hB : W.heap.size ≤ wA.heap.size + 4 := by have := HZ.out; omega
    have HB := hide hB
    clear hit hKlt hDne hDout yA sAA bWA hS hsz hDK hDlt hJB hJx hY hJ0 hKw hs ha hj hj' o1 hB hk0 hall htw xA
    go_wp2
    refine leave_mark (fn := Tryz.f53) HX.out.1 (leave_unit rfl ⟨⟨_, rfl⟩, _, HB.out, .inl ?_⟩)
    rw [HFL.out, HX.out.2.2]
    exact HX.out.2.1
  case hstop =>
    rintro c W' ⟨rfl, hj⟩ hlt hk0
    have o1 := only_putObj W' wA.heap.size (.deferred none)
    have hj' := hj.imp (fun h => hJB _ _ _ _ (by have := HZ.out; omega) h (o1.mono (fun j _ e => by have e' : j = wA.heap.size := e; have := HZ.out; exact ⟨by omega, by omega⟩))) (fun h => hJx _ _ _ (by have := HZ.out; omega) h (o1.mono (fun j _ e => by have e' : j = wA.heap.size := e; have := HZ.out; exact ⟨by omega, by omega⟩)))
    have HX := hide (And.intro hk0 hj')
    have hB : W.heap.size ≤ wA.heap.size + 4 := by have := HZ.out; omega
    have HB := hide hB
    clear hit hKlt hDne hDout yA sAA bWA hS hsz hDK hDlt hJB hJx hY hJ0 hKw hs ha hj hj' o1 hB hk0 xA
    go_wp2
    exact leave_mark (fn := Tryz.f53) HX.out.1 (leave_unit rfl ⟨⟨_, rfl⟩, _, HB.out, HX.out.2⟩)
  case hround =>
    rintro c ⟨k, x⟩ W' hx ⟨hj, hsm, hyy, hall⟩ hSame hsz'
    have hks := hkl _ (List.mem_of_getElem? hx)
    have hlim : w.heap.size ≤ wA.heap.size := by have := HZ.out; omega
    have e2X : ∀ W3, Pm.Same (KB t Lm Lx) w W3 → w.heap.size ≤ W3.heap.size → W3.cell? ⟨Lx, 0, none⟩ = some (.string X) := fun W3 h3 _ => by
      have h1 := h3 Lx (.inr (.inl rfl))
      have h2 := sAA Lx (.inr (.inl rfl))
      rw [World.cell?_of_block (h1.trans h2.symm)]
      exact xA
    clear hit hKlt hDne hDout yA sAA hSame hJ0 hkl xA hls hfl
    dsimp only
    gi_wp2
    refine ⟨Only.refl _ _, fun W2 ho2 => ?_⟩
    have hylt := (gI hyy).1
    have j2 := hJB _ c W' W2 (by have := HZ.out; omega) hj (ho2.mono (fun j _ e => by have e' : j = wA.heap.size + 1 := e; have := HZ.out; exact ⟨by omega, by omega⟩))
    have s2 : Pm.Same (KB t Lm Lx) w W2 := hsm.only hKw (by have := HZ.out; omega) ho2 (fun j e hj => by have e' : j = wA.heap.size + 1 := e; have := hKw j hj; have := HZ.out; omega)
    have y2 : W2.heap[Yb]? = some (.cells #[.func (.yield f) #[] #[]] 102 (0, 0)) := (ho2.block _ hylt (by have := HZ.out; omega)).trans hyy
    have z2 : wA.heap.size + 4 ≤ W2.heap.size := Nat.le_trans hsz' ho2.size
    have cX2 := e2X W2 s2 (by omega)
    have h177 := tag177 k X W2 hks
    clear e2X
    cases hv : tgV k X with
    | false =>
      rw [hv] at h177
      have hst := tw_stop (p := fun x => tgV x.1 X) ls c (k, x) hall hx hv
      rw [← HFL.out] at hst
      have HF : Hid (∀ W3, Below W2.heap.size W2 W3 → Only (fun j => D j ∨ wA.heap.size + 4 ≤ j) W2 W3 ∧ (J (wA.heap.size + 4) FL.length W3 ∨ Jx (wA.heap.size + 4) W3)) := hide (fun W3 b3 => ⟨below_only b3, .inl (by rw [hst]; exact hJB _ c W2 W3 (by have := HZ.out; omega) j2 (below_only b3))⟩)
      obtain ⟨s, hs'⟩ : ∃ s, s = tgS k X := ⟨_, rfl⟩
      rw [← hs'] at h177
      obtain ⟨sg, sr, slb, sn, sx⟩ := s
      dsimp only [svT] at h177
      clear hs' j2 s2 y2 z2 hylt hj hsm hyy hsz' hks hall ho2 hS hsz hDK hDlt hJB hJx hY hKw hs ha bWA hst hv hx HFL hlim
      gi_wp2_with (refine ⟨trivial, CallsIn.inRound _ (callsIn_wide.2 (Calls.mono h177 ?_))⟩; rintro e w4 ⟨rfl, b4⟩; have HG := hide (HF.out (w4.alloc (.cells #[.int .i64 sg, .int .i64 sr, .string slb, .int .i64 sn, .int .i64 sx] 27)) (b4.trans (((Below.refl _ w4).alloc (Nat.le_refl _) _).mono b4.size))); clear b4; dsimp only)
      exact ⟨HG.out.1, rfl, HG.out.2⟩
    | true =>
      rw [hv] at h177
      have hxe := tw_at (p := fun x => tgV x.1 X) ls c (k, x) hall hx hv
      rw [← HFL.out] at hxe
      have hall' : ∀ j y, j < c + 1 → ls[j]? = some y → tgV y.1 X = true := fun j y hj hy => by
        by_cases h : j < c
        · exact hall j y h hy
        · obtain rfl : j = c := by omega
          rw [hx] at hy
          injection hy with hy
          rw [← hy]; exact hv
      have HA := hide hall'
      have yl : ∀ W3, Below W2.heap.size W2 W3 → W3.cell? ⟨Yb, 0, none⟩ = some (.func (.yield f) #[] #[]) ∧ YieldAt Fence.wide 4 Tryz.prog f #[.string k, svT (tgS k X)] W3 (fun e W5 => Only (fun j => D j ∨ wA.heap.size + 4 ≤ j) W2 W5 ∧ ((e = .returned (.bool true) ∧ J (wA.heap.size + 4) (c + 1) W5 ∧ Pm.Same (KB t Lm Lx) w W5 ∧ W5.heap[Yb]? = some (.cells #[.func (.yield f) #[] #[]] 102 (0, 0))) ∨ (e = .returned (.bool false) ∧ Jx (wA.heap.size + 4) W5))) := fun W3 b3 => by
        have y3 := (b3.block _ (gI y2).1).trans y2
        have hz3 := b3.size
        have s3 : Pm.Same (KB t Lm Lx) w W3 := s2.below hKw (by have := HZ.out; omega) b3
        refine ⟨(cell_of_row _ _ 0 _ 102 (0, 0) y3).trans rfl, (hY _ c _ W3 (by have := HZ.out; omega) hxe (hJB _ c W2 W3 (by have := HZ.out; omega) j2 (below_only b3)) s3 (by omega)).mono ?_⟩
        rintro e W5 ⟨ho, hh⟩
        refine ⟨(below_only b3).next ho, ?_⟩
        rcases hh with ⟨he, hj5⟩ | ⟨he, hj5⟩
        · exact .inl ⟨he, hj5, s3.only hKw (by have := HZ.out; omega) ho (fun j d hj => d.elim (fun d => hDK j d hj) (fun d => by have := hKw j hj; have := HZ.out; omega)), (ho.block _ (gI y3).1 (fun d => d.elim (fun d => by have := hDlt _ d; have := HZ.out; omega) (fun d => by have := HZ.out; omega))).trans y3⟩
        · exact .inr ⟨he, hj5⟩
      have HY := hide yl
      obtain ⟨s, hs'⟩ : ∃ s, s = tgS k X := ⟨_, rfl⟩
      rw [← hs'] at h177 HY
      obtain ⟨sg, sr, slb, sn, sx⟩ := s
      dsimp only [svT] at h177 HY
      clear hs' yl j2 s2 y2 z2 hylt hj hsm hyy hsz' hks hxe ho2 hS hsz hDK hDlt hJB hJx hY hKw hs ha bWA hall hall' hv hx HFL hlim
      gi_wp2_with (refine ⟨trivial, CallsIn.inRound _ (callsIn_wide.2 (Calls.mono h177 ?_))⟩; rintro e w4 ⟨rfl, b4⟩; obtain ⟨cy, hya⟩ := HY.out (w4.alloc (.cells #[.int .i64 sg, .int .i64 sr, .string slb, .int .i64 sn, .int .i64 sx] 27)) (b4.trans (((Below.refl _ w4).alloc (Nat.le_refl _) _).mono b4.size)); clear b4; obtain ⟨yfn, ytm, yas, ybo, hy, hR⟩ := hya; dsimp only)
      refine (roundIn_in hR).mono ?_
      rintro e W5 ⟨ho5, (⟨rfl, hj5⟩ | ⟨rfl, hj5⟩)⟩
      · have H5 := hide (And.intro ho5 hj5)
        clear ho5 hj5 hR hy cy
        gi_wp2
        exact ⟨H5.out.1, H5.out.2.1, H5.out.2.2.1, H5.out.2.2.2, fun j a b h1 h2 => HA.out j (a, b) h1 h2⟩
      · have H5 := hide (And.intro ho5 hj5)
        clear ho5 hj5 hR hy cy
        gi_wp2
        exact ⟨H5.out.1, rfl, .inr H5.out.2⟩
end Go.Proofs.YtkkpdgfllnbigaaGreatDoor.Tg
namespace Go.Proofs.YtkkpdgfllnbigaaGreatDoor.Pm
open Go.RowKit Go.Shelf
set_option linter.unusedSimpArgs false

theorem del_is {k : ByteArray} : ∀ {l : List (ByteArray × ByteArray)}, Srt l → del k l = l.filter fun x => !decide (x.1 = k)
  | [], _ => rfl
  | y :: l, h => by
    have h' := List.pairwise_cons.1 h
    by_cases hc : cmpB y.1 k = -1
    · have h1 : del k ([y] ++ l) = [y] ++ del k l := del_right (a := [y]) (b := l) (by simp [hc])
      have hne : ¬ y.1 = k := fun e => by rw [e, ord_B.refl] at hc; exact absurd hc (by decide)
      rw [show y :: l = [y] ++ l from rfl, h1, del_is h'.2]
      simp [List.filter_cons, hne]
    · by_cases he : y.1 = k
      · have h1 : del k ([] ++ (k, y.2) :: l) = [] ++ l := del_same (a := []) (by simp)
        have hy : y = (k, y.2) := Prod.ext he rfl
        rw [hy] at h' ⊢
        rw [List.nil_append, List.nil_append] at h1
        rw [h1, List.filter_cons_of_neg (by simp)]
        symm
        rw [List.filter_eq_self]
        intro z hz
        have h2 := h'.1 z hz
        simp only [Bool.not_eq_true', decide_eq_false_iff_not]
        intro e
        dsimp only at h2
        rw [e, ord_B.refl] at h2
        exact absurd h2 (by decide)
      · have hp : pos k (y :: l) = 0 := by simp [pos, hc]
        have hh : has k (y :: l) = false := by unfold has; rw [hp]; simp [he]
        unfold del
        rw [hh]
        symm
        rw [if_neg (by decide), List.filter_eq_self]
        intro z hz
        simp only [Bool.not_eq_true', decide_eq_false_iff_not]
        intro e
        have hk : cmpB k y.1 = -1 := by
          rcases ord_B.range y.1 k with q | q | q
          · exact absurd q hc
          · exact absurd (ord_B.eq _ _ q) he
          · rw [ord_B.anti, q]
        rcases List.mem_cons.1 hz with rfl | hz
        · exact he e
        · have h2 := ord_B.trans _ _ _ hk (h'.1 z hz)
          rw [e, ord_B.refl] at h2
          exact absurd h2 (by decide)
theorem Built.blk {B : Nat} {C : T → Prop} {P : Nat → Prop} (hC : ∀ s, C s → ∀ j, s.blk j → P j) {t : T} (h : Built B C t) : ∀ j, t.blk j → P j ∨ B ≤ j := by
  induction h with
  | nil =>
    rintro j ⟨k, v, l, r, hs⟩
    cases hs
  | old h => exact fun j hj => .inl (hC _ h j hj)
  | new hp _ _ ihl ihr =>
    rintro j ⟨k, v, l, r, hs⟩
    cases hs with
    | here => exact .inr hp
    | left hs => exact ihl j ⟨k, v, l, r, hs⟩
    | right hs => exact ihr j ⟨k, v, l, r, hs⟩
theorem Takes.blk {B : Nat} {k : ByteArray} {t t' : T} (h : Takes B k t t') : ∀ j, t'.blk j → t.blk j ∨ B ≤ j :=
  h.built.blk (P := t.blk) (fun _ hs _ ⟨k, v, l, r, hj⟩ => ⟨k, v, l, r, Sub.trans hj hs⟩)
end Go.Proofs.YtkkpdgfllnbigaaGreatDoor.Pm
namespace Go.Proofs.YtkkpdgfllnbigaaGreatDoor.Tg
open Go.RowKit Go.Shelf
set_option linter.unusedSimpArgs false
attribute [local go_sem] Oper.semAt_some

theorem takeG {w : World} {t : Pm.T} {pm : Option Addr} (k : ByteArray) (h : Mg w t) (hp : t.ptr = .pointer pm) : Calls Tryz.prog 34 #[.agg #[.pointer pm], .string k] w fun e w' => ∃ t' pt, t'.ptr = .pointer pt ∧ e = .returned (.agg #[.pointer pt]) ∧ Mg w' t' ∧ (t'.list = t.list.filter fun x => !decide (x.1 = k)) ∧ (∀ j, t'.blk j → t.blk j ∨ w.heap.size ≤ j) ∧ Below w.heap.size w w' := by
  have := Pm.mTake_any t k w h.inn (by have := h.few; omega)
  unfold Pm.mv at this
  rw [hp] at this
  refine this.mono (fun e w' ⟨t', he, hi, ht, hb⟩ => ?_)
  obtain ⟨pt, hpt⟩ := t'.ptr_shape
  rw [hpt] at he
  have hl : t'.list = t.list.filter fun x => !decide (x.1 = k) := by rw [ht.list h.srt, Pm.del_is h.srt]
  refine ⟨t', pt, hpt, he, ⟨hi, ?_, (ht.says h.srt h.bal h.inn.underP).bal, ?_, ?_⟩, hl, ht.blk, hb⟩
  · rw [hl]
    exact h.srt.filter _
  · have := Pm.Takes.n ht
    have := h.few
    omega
  · intro x hx
    rw [hl] at hx
    exact h.key x (List.mem_filter.1 hx).1
/-- What is left behind the first keys. -/
def remC (FL : List Kv) (c : Nat) (l : List Kv) : List Kv := l.filter fun x => !(FL.take c).any fun y => decide (y.1 = x.1)
theorem remC_zero (FL l : List Kv) : remC FL 0 l = l := by
  unfold remC
  rw [List.filter_eq_self]
  intro x _
  simp
theorem remC_step {FL : List Kv} {c : Nat} {y : Kv} (l : List Kv) (h : FL[c]? = some y) : (remC FL c l).filter (fun x => !decide (x.1 = y.1)) = remC FL (c + 1) l := by
  unfold remC
  rw [List.filter_filter, List.take_add_one, h]
  congr 1
  funext x
  simp only [List.any_append, Option.toList, List.any_cons, List.any_nil, Bool.or_false, Bool.not_or]
  rw [Bool.and_comm]
  congr 2
  rw [Bool.eq_iff_iff, decide_eq_true_eq, decide_eq_true_eq]
  exact eq_comm
theorem remC_all {l : List Kv} (hm : mayT l = true) (hs : Pm.Srt l) (X : ByteArray) : remC (foundL X l) (foundL X l).length l = l.filter fun x => !decide (x.2 = X) := by
  unfold remC
  rw [List.take_length, found_is hm hs]
  apply List.filter_congr
  intro x hx
  congr 1
  rw [Bool.eq_iff_iff, List.any_eq_true, decide_eq_true_eq]
  constructor
  · rintro ⟨y, hy, e⟩
    simp only [decide_eq_true_eq] at e
    obtain ⟨hy1, hy2⟩ := List.mem_filter.1 hy
    simp only [decide_eq_true_eq] at hy2
    have h1 := (look_at hs (k := x.1) (v := x.2)).1 hx
    have h2 := (look_at hs (k := x.1) (v := y.2)).1 (by rw [← e]; exact hy1)
    rw [h1] at h2
    injection h2 with h2
    rw [h2]; exact hy2
  · intro e
    exact ⟨x, List.mem_filter.2 ⟨hx, by simp [e]⟩, by simp⟩
end Go.Proofs.YtkkpdgfllnbigaaGreatDoor.Tg
