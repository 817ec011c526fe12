/-
  walk: Changes GOES OVER THE KEYS THAT JUST ONE OF TWO HAS (37, 22).
  walk: Union 21.
-/
import Derived.Test.YtckkoigghkgfdaaChgW
namespace Go.Proofs.Ytckkoigghkgfdaa
open Go.RowKit Go.Shelf
set_option linter.unusedSimpArgs false

/-- What an iterator's rounds keep. -/
def Keeps (J : Nat → World → Prop) (K : Nat → Prop) (w W : World) (c : Nat) (W1 : World) : Prop := J c W1 ∧ Same K w W1 ∧ W.heap.size + 2 ≤ W1.heap.size
theorem Went.keeps {D K : Nat → Prop} {J : Nat → World → Prop} {Jx : World → Prop} {w W W1 : World} {c : Nat} {e : Ending} {W2 : World} (h : Went D J Jx W1 c e W2) (hS : Same K w W1) (hz : W.heap.size + 2 ≤ W1.heap.size) (hK : ∀ j, K j → j < w.heap.size) (hs : w.heap.size ≤ W1.heap.size) (hD : ∀ j, D j → ¬ K j) : Went D (Keeps J K w W) Jx W1 c e W2 := by
  refine ⟨h.1, ?_⟩
  rcases h.2 with ⟨he, hj⟩ | ⟨he, hj⟩
  · exact .inl ⟨he, hj, hS.only hK hs h.1 hD, Nat.le_trans hz h.1.size⟩
  · exact .inr ⟨he, hj⟩
/-- The blocks that two maps' changes are read from. -/
def KC (a b : T) (La Lb : Nat) : Nat → Prop := fun j => j = La ∨ j = Lb ∨ a.blk j ∨ b.blk j
theorem nb_blk {P : Nat → Prop} : ∀ {t : T}, (∀ j, t.blk j → P j) → NB P t
  | .nil, _ => trivial
  | .node p k v l r, h => ⟨h p ⟨k, v, l, r, .here⟩, nb_blk (fun j ⟨k', v', l', r', hs⟩ => h j ⟨k', v', l', r', .left hs⟩), nb_blk (fun j ⟨k', v', l', r', hs⟩ => h j ⟨k', v', l', r', .right hs⟩)⟩
theorem enters37 : Enters Try.prog 37 := enters_of Try.func37 (by kernel_rfl) rfl
set_option maxHeartbeats 2000000 in
set_option maxRecDepth 100000 in
theorem iter_chg (a b : T) (La Lb : Nat) (xs : List Ch) (w : World) (ia : In w a) (ib : In w b) (sa : Srt a.list) (sb : Srt b.list) (hn : a.n + b.n ≤ 1000) (h1 : w.cell? ⟨La, 0, none⟩ = some a.ptr) (h2 : w.cell? ⟨Lb, 0, none⟩ = some b.ptr) (hx : IsChg a.list b.list xs) :
    Iter 37 #[.pointer (some ⟨La, 0, none⟩), .pointer (some ⟨Lb, 0, none⟩)] xs encC (KC a b La Lb) w := by
  intro l D J Jx W hS hs hDK hDlt hJB hY hJ
  have hK : ∀ j, KC a b La Lb j → j < w.heap.size := fun j hj => by
    rcases hj with rfl | rfl | hj | hj
    · exact World.block_lt_of_cell? w _ h1
    · exact World.block_lt_of_cell? w _ h2
    · exact ia.blk_lt hj
    · exact ib.blk_lt hj
  have hc1 := hS.cell (L := La) (.inl rfl) h1
  have hc2 := hS.cell (L := Lb) (.inr (.inl rfl)) h2
  obtain ⟨W1, hW1⟩ : ∃ W1, W1 = (W.alloc (.cells #[.func (.yield l) #[] #[]] 74)).alloc (.cells #[.func (.func 38) #[] #[.pointer (some ⟨W.heap.size + 1, 0, none⟩), .pointer (some ⟨W.heap.size, 0, none⟩)]] 75) := ⟨_, rfl⟩
  have hb : Below W.heap.size W W1 := by rw [hW1]; exact ((Below.refl _ W).alloc (Nat.le_refl _) _).alloc (by simp) _
  have hsz : W1.heap.size = W.heap.size + 2 := by rw [hW1]; simp
  obtain ⟨n0, n1⟩ := new2 W (.cells #[.func (.yield l) #[] #[]] 74) (.cells #[.func (.func 38) #[] #[.pointer (some ⟨W.heap.size + 1, 0, none⟩), .pointer (some ⟨W.heap.size, 0, none⟩)]] 75)
  rw [← hW1] at n0 n1
  have hS1 : Same (KC a b La Lb) w W1 := hS.below hK hs hb
  have hE : CEnv W1 (W.heap.size + 1) W.heap.size l := ⟨by rw [cell_of_row _ _ 0 _ 75 (0, 0) n1]; rfl, by rw [cell_of_row _ _ 0 _ 74 (0, 0) n0]; rfl⟩
  have ho := over_chg (W.heap.size + 1) W.heap.size l (W.heap.size + 2) xs D (fun j => KC a b La Lb j ∨ W.heap.size ≤ j) (Keeps J (KC a b La Lb) w W) Jx (fun j d e => e.elim (hDK j d) (fun h => by have := hDlt j d; omega)) (fun p h => .inr (by omega)) (.inr (by omega)) (.inr (Nat.le_refl _))
    (fun c A B hj hb' => ⟨hJB c A B hj.1 hb', hj.2.1.below hK (by have := hj.2.2; omega) hb', Nat.le_trans hj.2.2 hb'.size⟩)
    (fun c x A hx hj _ _ => (hY c x A hx hj.1 hj.2.1 hj.2.2).mono (fun e B hw => hw.keeps hj.2.1 hj.2.2 hK (by have := hj.2.2; omega) hDK))
    (a.n + b.n) a b 0 W1 xs (Nat.le_refl _) hn (In.same ia (fun j hj => hS1 j (.inr (.inr (.inl hj))))) (In.same ib (fun j hj => hS1 j (.inr (.inr (.inr hj))))) (nb_blk (fun j hj => .inl (.inr (.inr (.inl hj))))) (nb_blk (fun j hj => .inl (.inr (.inr (.inr hj))))) sa sb hE (by omega) ⟨hJB 0 W W1 hJ hb, hS1, by omega⟩ hx (fun i x h => by rw [Nat.zero_add]; exact h)
  have HO := hide (show Calls Try.prog 38 _ W1 (fun e W' => ∃ b, e = .returned (.bool b) ∧ (J xs.length W' ∨ Jx W')) from ho.mono (fun e W' h => by
    rcases h.2 with ⟨rfl, hj⟩ | ⟨rfl, hj⟩
    · exact ⟨_, rfl, .inl (by rw [Nat.zero_add] at hj; exact hj.1)⟩
    · exact ⟨_, rfl, .inr hj⟩))
  obtain ⟨pa, ha⟩ := a.ptr_shape
  obtain ⟨pb, hb'⟩ := b.ptr_shape
  unfold mv at HO
  rw [ha] at hc1 HO
  rw [hb'] at hc2 HO
  have hcA : ∀ o1 o2, ((W.alloc o1).alloc o2).cell? ⟨La, 0, none⟩ = some (.pointer pa) := fun o1 o2 => cell_stays hc1 (((Below.refl _ W).alloc (Nat.le_refl _) _).alloc (by simp) _)
  have hcB : ∀ o1 o2, ((W.alloc o1).alloc o2).cell? ⟨Lb, 0, none⟩ = some (.pointer pb) := fun o1 o2 => cell_stays hc2 (((Below.refl _ W).alloc (Nat.le_refl _) _).alloc (by simp) _)
  have ho2 := HO.out
  rw [hW1] at ho2
  clear hE ho hS1 n0 n1 hsz hb hK hY hJB hJ hDlt hDK hS hs ha hb' ia ib h1 h2 HO hW1 hx sa sb hn
  have hstf : ∀ a f x y m W, (store a (.func f x y) m).run Try.prog W = stored Try.prog W a (.func f x y) m := fun a f x y m W => run_store Try.prog W a _ m rfl
  go_enter Try.func37, Try.ntmps37
  go_wp2_with (go_at_call 38; refine ho2.mono ?_; rintro e W' ⟨b, rfl, hj⟩)
  go_end0
  exact ⟨⟨_, rfl⟩, hj⟩
theorem changes_any (pa pb : Option Addr) (w : World) : Calls Try.prog 22 #[.agg #[.pointer pa], .agg #[.pointer pb]] w fun e w' => e = .returned (.func (.func 37) #[] #[.pointer (some ⟨w.heap.size, 0, none⟩), .pointer (some ⟨w.heap.size + 1, 0, none⟩)]) ∧ w' = (w.alloc (.cells #[.pointer pa] 29)).alloc (.cells #[.pointer pb] 29) := by
  go_enter Try.func22, Try.ntmps22
  go_wp2
  go_ret
  exact ⟨rfl, rfl⟩
end Go.Proofs.Ytckkoigghkgfdaa
namespace Go.Proofs.Ytckkoigghkgfdaa
open Go.RowKit Go.Shelf
set_option linter.unusedSimpArgs false
attribute [local go_sem] Oper.semAt_some

theorem NB.sub {P : Nat → Prop} {s t : T} (h : Sub s t) : NB P t → NB P s := by
  induction h with
  | here => exact id
  | left _ ih => exact fun h => ih h.2.1
  | right _ ih => exact fun h => ih h.2.2
theorem Puts.nb {B : Nat} {P : Nat → Prop} (hP : ∀ p, B ≤ p → P p) {k : ByteArray} {v : Int} {t t' : T} (h : Puts B k v t t') (hn : NB P t) : NB P t' := by
  refine Built.nb hP (h.built.mono (Nat.le_refl _) (fun s hs => .old (NB.sub hs hn)))
theorem leave_map {fn : Func} {tmps : Array Value} {p : Tmp} (b : Nat) {x : Option Addr} {R : Ending → World → Prop} {W : World} (h : fn.results = #[.cell p 29]) (hp : tmps.getD p undef = .pointer (some ⟨b, 0, none⟩))
    (hc : W.heap[b]? = some (.cells #[.pointer x] 29 (0, 0))) (hR : R (.returned (.agg #[.pointer x])) W) : LeavesInM Fence.wide 6 Try.prog fn tmps R [] .returning W := by
  refine leave_none (v := .agg #[.pointer x]) ?_ hR
  rw [results_cell h, hp]
  have := run_loadVar_mid (P := Try.prog) W b 0 29 [.pointer x] _ (fun j v hv => by rw [cell_of_row W b (0 + j) #[.pointer x] 29 (0, 0) hc, Nat.zero_add]; simpa using hv) Try.underlying29 rfl Try.info29
  simp [asAddr, Result.andThen, this]
/-- What stands behind c rounds: S tells where. -/
structure UI (w : World) (S : Nat) (a b : T) (xs : List Ch) (c : Nat) (W : World) (u : T) : Prop where
  low : Below w.heap.size w W
  size : S ≤ W.heap.size
  res : W.heap[w.heap.size + 1 + 1]? = some (.cells #[.pointer none] 29 (0, 0))
  box : W.heap[w.heap.size + 1 + 1 + 1]? = some (.cells #[u.ptr] 29 (0, 0))
  tree : In W u
  nb : NB (fun j => j < S ∨ S + 4 ≤ j) u
  bal : u.bal
  srt : Srt u.list
  few : u.n ≤ a.n + c
  has : ∀ x ∈ xs.take c, x.2.2.2 = true → look x.1 u.list = look x.1 b.list
  not : ∀ k, (∀ x ∈ xs.take c, x.2.2.2 = true → x.1 ≠ k) → look k u.list = look k a.list
theorem UI.only {w : World} {S : Nat} {a b u : T} {xs : List Ch} {c : Nat} {W W' : World} (h : UI w S a b xs c W u) (hS : w.heap.size + 6 ≤ S) (ho : Only (fun j => j = S + 1) W W') : UI w S a b xs c W' u :=
  ⟨Below.only h.low ho h.low.size (fun j d => by omega), Nat.le_trans h.size ho.size, (ho.block _ (Array.getElem?_eq_some_iff.1 h.res).1 (by omega)).trans h.res, (ho.block _ (Array.getElem?_eq_some_iff.1 h.box).1 (by omega)).trans h.box, In.nb ho (fun j d p => by omega) h.tree h.nb, h.nb, h.bal, h.srt, h.few, h.has, h.not⟩
theorem UI.below {w : World} {S : Nat} {a b u : T} {xs : List Ch} {c : Nat} {W W' : World} (h : UI w S a b xs c W u) (ho : Below W.heap.size W W') : UI w S a b xs c W' u :=
  ⟨h.low.trans (ho.mono h.low.size), Nat.le_trans h.size ho.size, (ho.block _ (Array.getElem?_eq_some_iff.1 h.res).1).trans h.res, (ho.block _ (Array.getElem?_eq_some_iff.1 h.box).1).trans h.box, In.below ho h.tree, h.nb, h.bal, h.srt, h.few, h.has, h.not⟩
/-- What a union has. -/
def UnionSays (a b u : T) : Prop := u.bal ∧ Srt u.list ∧ ∀ k, look k u.list = if (look k a.list).2 = true then look k a.list else look k b.list
theorem UI.says {w : World} {S : Nat} {a b u : T} {xs : List Ch} {W : World} (h : UI w S a b xs xs.length W u) (hx : IsChg a.list b.list xs) : UnionSays a b u := by
  have hN := h.not
  have hH := h.has
  rw [List.take_length] at hN hH
  refine ⟨h.bal, h.srt, fun k => ?_⟩
  by_cases hk : ∃ x ∈ xs, x.2.2.2 = true ∧ x.1 = k
  · obtain ⟨x, hm, h2, rfl⟩ := hk
    obtain ⟨e1, e2, e3⟩ := (hx.mem x).1 hm
    rw [hH x hm h2, if_neg (by rw [← e1]; intro e; rw [e, h2] at e3; exact e3 rfl)]
  · rw [hN k (fun x hm h2 e => hk ⟨x, hm, h2, e⟩)]
    split
    · rfl
    · rename_i ha
      have hb : (look k b.list).2 = false := by
        cases hb : (look k b.list).2
        · rfl
        · exact (hk ⟨(k, look k a.list, look k b.list), (hx.mem _).2 ⟨rfl, rfl, by simp only; rw [hb]; simpa using ha⟩, hb, rfl⟩).elim
      simp only [Bool.not_eq_true] at ha
      have n0 : ∀ l : List (ByteArray × Int), (look k l).2 = false → look k l = (0, false) := fun l => by
        induction l with
        | nil => exact fun _ => rfl
        | cons y l ih =>
          rw [look]
          split
          · intro h; cases h
          · exact ih
      rw [n0 _ ha, n0 _ hb]
set_option maxHeartbeats 4000000 in
set_option maxRecDepth 100000 in
theorem union_any (a b : T) (pa pb : Option Addr) (xs : List Ch) (w : World) (ia : In w a) (ib : In w b) (sa : Srt a.list) (sb : Srt b.list) (ba : a.bal) (hn : a.n + b.n ≤ 1000) (ha : a.ptr = .pointer pa) (hb : b.ptr = .pointer pb) (hx : IsChg a.list b.list xs) (hxl : xs.length ≤ 1000) :
    Calls Try.prog 21 #[.agg #[.pointer pa], .agg #[.pointer pb]] w fun e w' => ∃ u pu, e = .returned (.agg #[.pointer pu]) ∧ u.ptr = .pointer pu ∧ In w' u ∧ UnionSays a b u ∧ Below w.heap.size w w' := by
  obtain ⟨wB, hwB⟩ : ∃ wB, wB = (((w.alloc (.cells #[.pointer pa] 29)).alloc (.cells #[.pointer pb] 29)).alloc (.cells #[.pointer none] 29)).alloc (.cells #[.pointer pa] 29) := ⟨_, rfl⟩
  obtain ⟨m0, m1, m2, m3, hbB⟩ := new4 w (.cells #[.pointer pa] 29) (.cells #[.pointer pb] 29) (.cells #[.pointer none] 29) (.cells #[.pointer pa] 29)
  rw [← hwB] at m0 m1 m2 m3 hbB
  have hsB : wB.heap.size = w.heap.size + 4 := by rw [hwB]; simp
  have hcm := changes_any pa pb wB
  rw [hsB] at hcm
  obtain ⟨wA, hwA⟩ : ∃ wA, wA = (wB.alloc (.cells #[.pointer pa] 29)).alloc (.cells #[.pointer pb] 29) := ⟨_, rfl⟩
  obtain ⟨n0, n1⟩ := new2 wB (.cells #[.pointer pa] 29) (.cells #[.pointer pb] 29)
  rw [← hwA] at hcm n0 n1
  rw [hsB] at n0 n1
  have hbA : Below wB.heap.size wB wA := by rw [hwA]; exact ((Below.refl _ wB).alloc (Nat.le_refl _) _).alloc (by simp) _
  have hsA : wA.heap.size = w.heap.size + 6 := by rw [hwA]; simp [hsB]
  have hbw : Below w.heap.size w wA := hbB.trans (hbA.mono hbB.size)
  have hit := iter_chg a b (w.heap.size + 4) (w.heap.size + 4 + 1) xs wA (In.below hbw ia) (In.below hbw ib) sa sb hn (by rw [cell_of_row _ _ 0 _ 29 (0, 0) n0, ha]; rfl) (by rw [cell_of_row _ _ 0 _ 29 (0, 0) n1, hb]; rfl) hx
  have hI0 : UI w wA.heap.size a b xs 0 wA a := ⟨hbw, Nat.le_refl _, (hbA.block _ (by omega)).trans m2, by rw [ha]; exact (hbA.block _ (by omega)).trans m3, In.below hbw ia, nb_blk (fun j hj => .inl (by have := ia.blk_lt hj; omega)), ba, sa, by omega, by simp, fun k _ => rfl⟩
  have hKlt : ∀ j, KC a b (w.heap.size + 4) (w.heap.size + 4 + 1) j → j < wA.heap.size := fun j hj => by
    rcases hj with rfl | rfl | hj | hj
    · omega
    · omega
    · have := ia.blk_lt hj; omega
    · have := ib.blk_lt hj; omega
  have hKD : ∀ j, j = w.heap.size + 1 + 1 + 1 → ¬ KC a b (w.heap.size + 4) (w.heap.size + 4 + 1) j := fun j e hj => by
    rcases hj with rfl | rfl | hj | hj
    · omega
    · omega
    · have := ia.blk_lt hj; omega
    · have := ib.blk_lt hj; omega
  obtain ⟨S, hS⟩ : ∃ S, S = wA.heap.size := ⟨_, rfl⟩
  have hSw : w.heap.size + 6 ≤ S := by omega
  have HW := hide hwB
  have HX := hide hx
  have HB := hide (And.intro ha (And.intro ia ib))
  rw [HW.out] at hcm
  clear hwB hwA n0 n1 m0 m1 m2 m3 hbA hbB ia ib ha hb hx hsB sa sb ba
  refine calls_marks Try.func21 rfl ?_
  simp only [Try.ntmps21, List.size_toArray, List.length_cons, List.length_nil, Nat.reduceAdd, Nat.reduceSub, Array.replicate_succ, Array.replicate_zero, List.push_toArray, List.append_toArray, List.nil_append, List.cons_append]
  go_wp2_with (go_at_call 22; refine hcm.mono ?_; rintro e w' ⟨rfl, hw'⟩; obtain rfl : wA = w' := hw'.symm; clear hw')
  refine range_it 37 enters37 _ xs encC _ hit rfl (fun _ _ => rfl) hKlt (fun j => j = w.heap.size + 1 + 1 + 1) hKD (by intro j e; omega)
    (fun c W => ∃ u, UI w S a b xs c W u) (fun _ _ => False) (fun k W W' ⟨u, hi⟩ ho => ⟨u, hi.only hSw (by rw [hS]; exact ho)⟩) (fun _ _ _ h => h.elim) ⟨a, by rw [hS]; exact hI0⟩ ?hround ?hdone (fun _ _ h => h.elim)
  case hround =>
    rintro c ⟨k, ⟨p1, p2⟩, ⟨q1, q2⟩⟩ W hxc ⟨u, hi⟩ hSame hsz
    have hcl : c < xs.length := (List.getElem?_eq_some_iff.1 hxc).1
    clear hSame hit hI0 hKlt hKD hcm
    dsimp only [encC]
    gi_wp2
    obtain ⟨W1, hW1⟩ : ∃ W1, W1 = W.alloc (.cells #[.int .i64 p1, .bool p2, .int .i64 q1, .bool q2] 56) := ⟨_, rfl⟩
    have r1 := heap_alloc_new W (.cells #[.int .i64 p1, .bool p2, .int .i64 q1, .bool q2] 56)
    have b1 : Below W.heap.size W W1 := by rw [hW1]; exact (Below.refl _ W).alloc (Nat.le_refl _) _
    rw [← hW1] at r1 ⊢
    refine ⟨below_only b1, fun W2 ho2 => ?_⟩
    have hi2 := (hi.below b1).only hSw (by rw [hS]; exact ho2)
    have r2 := (ho2.block _ (Array.getElem?_eq_some_iff.1 r1).1 (by omega)).trans r1
    obtain ⟨BP, hBP⟩ : ∃ B, B = W.heap.size := ⟨_, rfl⟩
    rw [← hBP] at r2 ⊢
    have hW2s : S + 4 ≤ W2.heap.size := by have := b1.size; have := ho2.size; omega
    clear hBP
    have k2 : W2.cell? ⟨BP, 2, none⟩ = some (.int .i64 q1) := (cell_of_row _ _ 2 _ 56 (0, 0) r2).trans rfl
    have k3 : W2.cell? ⟨BP, 3, none⟩ = some (.bool q2) := (cell_of_row _ _ 3 _ 56 (0, 0) r2).trans rfl
    obtain ⟨pu, hpu⟩ := u.ptr_shape
    have HI := hide hi2
    have HXC := hide hxc
    have hfew := hi2.few
    have hput : ∀ W', Below W2.heap.size W2 W' → Calls Try.prog 25 #[.agg #[.pointer pu], .string k, .int .i64 q1] W' fun e w' => ∃ t' pt, e = .returned (.agg #[.pointer pt]) ∧ t'.ptr = .pointer pt ∧ In w' t' ∧ Puts W'.heap.size k q1 u t' ∧ Below W'.heap.size W' w' := fun W' hW => by
      have := mPut_any u k q1 W' (In.below hW HI.out.tree) (by omega)
      rw [mv_ptr hpu] at this
      refine this.mono ?_
      rintro e w' ⟨t', rfl, i', hp', hb'⟩
      obtain ⟨pt, hpt⟩ := t'.ptr_shape
      exact ⟨t', pt, by rw [mv_ptr hpt], hpt, i', hp', hb'⟩
    have hbox : W2.heap[w.heap.size + 1 + 1 + 1]? = some (.cells #[.pointer pu] 29 (0, 0)) := by rw [← hpu]; exact hi2.box
    obtain ⟨W3, hW3⟩ : ∃ W3, W3 = W2.alloc (.cells #[.int .i64 q1, .bool q2] 38) := ⟨_, rfl⟩
    have r3 := heap_alloc_new W2 (.cells #[.int .i64 q1, .bool q2] 38)
    have b3 : Below W2.heap.size W2 W3 := by rw [hW3]; exact (Below.refl _ W2).alloc (Nat.le_refl _) _
    have hszB := hi2.size
    have mbx : ∀ W', Below W2.heap.size W2 W' → W'.cell? ⟨w.heap.size + 1 + 1 + 1, 0, none⟩ = some (.pointer pu) ∧ W'.frozen? ⟨w.heap.size + 1 + 1 + 1, 0, none⟩ = false := fun W' hW => by
      have := (hW.block _ (Array.getElem?_eq_some_iff.1 hbox).1).trans hbox
      exact ⟨(cell_of_row _ _ 0 _ 29 (0, 0) this).trans rfl, frozen_of_row _ _ 0 _ 29 this⟩
    cases q2
    · have HF : Hid (rpost (fun j => j = w.heap.size + 1 + 1 + 1) (fun c W => ∃ u, UI w S a b xs c W u) (fun _ _ => False) W2 (c + 1) .normal { tmps := #[], defers := [] } W3) := hide ⟨below_only b3, u, by
        have h := HI.out.below b3
        refine ⟨h.low, h.size, h.res, h.box, h.tree, h.nb, h.bal, h.srt, by have := h.few; omega, fun x hm h2 => ?_, fun k' hk' => ?_⟩
        · rw [List.take_add_one, HXC.out] at hm
          rcases List.mem_append.1 hm with hm | hm
          · exact h.has x hm h2
          · simp at hm; subst hm; cases h2
        · exact h.not k' (fun x hm h2 => hk' x (by rw [List.take_add_one]; exact List.mem_append_left _ hm) h2)⟩
      rw [hW3] at HF
      clear hi hi2 hxc hput mbx b3 r3 hW3 hfew
      gi_wp2
      exact HF.out
    · obtain ⟨m1, m2⟩ := mbx W3 b3
      rw [hW3] at m1 m2
      have hp3 := hput W3 b3
      rw [hW3] at hp3
      have HB3 := hide b3
      have HW3 := hide hW3
      have HMB := hide hbox
      clear hi hi2 hxc hput hbox b3 r3 hfew hW3
      gi_wp2_with (refine ⟨trivial, ?_⟩; gi_at_call 25; refine (CallsIn.inRound _ (callsIn_wide.2 hp3)).mono ?_; rintro e w4 ⟨t', pt, rfl, hpt, i4, hpp, b4⟩; rw [← HW3.out] at hpp b4; have m4 := mbx w4 (HB3.out.trans (b4.mono HB3.out.size)); have m41 := m4.1; have m42 := m4.2; have H4 := hide (And.intro hpt (And.intro i4 (And.intro hpp b4))); clear hpt i4 hpp b4 m4)
      obtain ⟨hpt, i4, hpp, b4⟩ := H4.out
      have h := HI.out
      have b34 := HB3.out.trans (b4.mono HB3.out.size)
      obtain ⟨s5, o5⟩ := set_one (i := 0) (.pointer pt) ((b34.block _ (Array.getElem?_eq_some_iff.1 HMB.out).1).trans HMB.out)
      have h4 := h.below b34
      refine ⟨(below_only b34).next o5, t', ?_⟩
      have hsy := hpp.says h.srt h.bal (In.underP (In.below HB3.out h.tree))
      have hlist := hpp.list h.srt
      refine ⟨Below.only h4.low o5 h4.low.size (fun j d => by omega), Nat.le_trans h4.size o5.size, (o5.block _ (Array.getElem?_eq_some_iff.1 h4.res).1 (by omega)).trans h4.res, by rw [hpt]; simpa using s5, In.aside ((b34.block _ (Array.getElem?_eq_some_iff.1 HMB.out).1).trans HMB.out) o5 i4, hpp.nb (fun p hp => .inr (by have := HB3.out.size; omega)) h.nb, hsy.bal, by rw [hlist]; exact srt_ins h.srt _ _, by have := hpp.n; have := h.few; omega, fun x hm h2 => ?_, fun k' hk' => ?_⟩
      · rw [hlist, look_ins h.srt]
        obtain ⟨e1, e2, e3⟩ := (HX.out.mem (k, (p1, p2), (q1, true))).1 (List.mem_of_getElem? HXC.out)
        by_cases hxk : x.1 = k
        · rw [if_pos hxk, hxk]; exact e2
        · rw [if_neg hxk]
          rw [List.take_add_one, HXC.out] at hm
          rcases List.mem_append.1 hm with hm | hm
          · exact h.has x hm h2
          · simp at hm; rw [hm] at hxk; exact (hxk rfl).elim
      · rw [hlist, look_ins h.srt, if_neg (fun e => hk' (k, (p1, p2), (q1, true)) (by rw [List.take_add_one, HXC.out]; simp) rfl e.symm)]
        exact h.not k' (fun x hm h2 => hk' x (by rw [List.take_add_one]; exact List.mem_append_left _ hm) h2)
  case hdone =>
    rintro W ⟨u, hi⟩ hlt hmk
    obtain ⟨pu, hpu⟩ := u.ptr_shape
    have hbx : W.heap[w.heap.size + 1 + 1 + 1]? = some (.cells #[.pointer pu] 29 (0, 0)) := by rw [← hpu]; exact hi.box
    have c5 : W.cell? ⟨w.heap.size + 1 + 1 + 1, 0, none⟩ = some (.pointer pu) := (cell_of_row _ _ 0 _ 29 (0, 0) hbx).trans rfl
    have c4 : W.cell? ⟨w.heap.size + 1 + 1, 0, none⟩ = some (.pointer none) := (cell_of_row _ _ 0 _ 29 (0, 0) hi.res).trans rfl
    have f4 : W.frozen? ⟨w.heap.size + 1 + 1, 0, none⟩ = false := frozen_of_row _ _ 0 _ 29 hi.res
    obtain ⟨s5, o5⟩ := set_one (i := 0) (.pointer pu) hi.res
    replace s5 : (W.setCell ⟨w.heap.size + 1 + 1, 0, none⟩ (.pointer pu)).heap[w.heap.size + 1 + 1]? = some (.cells #[.pointer pu] 29 (0, 0)) := by simpa using s5
    have mk5 := (o5.block _ hlt (by omega)).trans hmk
    have HU := hide (And.intro hi (And.intro s5 (And.intro o5 (And.intro mk5 hpu))))
    have hsA2 := hide hsA
    clear hit hI0 hKlt hKD hcm hi hbx s5 o5 mk5 hpu hmk
    go_wp2
    obtain ⟨hi, s5, o5, mk5, hpu⟩ := HU.out
    refine leave_mark mk5 ?_
    have op := only_putObj (W.setCell ⟨w.heap.size + 1 + 1, 0, none⟩ (.pointer pu)) wA.heap.size (.deferred none)
    refine leave_map (w.heap.size + 1 + 1) rfl rfl ((op.block _ (Array.getElem?_eq_some_iff.1 s5).1 (by have := hsA2.out; omega)).trans s5) ?_
    refine ⟨u, pu, rfl, hpu, ?_, hi.says HX.out, ?_⟩
    · exact In.nb op (fun j d p => by rw [← hS] at d; omega) (In.aside hi.res o5 hi.tree) hi.nb
    · exact Below.only (Below.only hi.low o5 hi.low.size (fun j d => by omega)) op (Nat.le_trans hi.low.size o5.size) (fun j d => by have := hsA2.out; omega)
end Go.Proofs.Ytckkoigghkgfdaa
