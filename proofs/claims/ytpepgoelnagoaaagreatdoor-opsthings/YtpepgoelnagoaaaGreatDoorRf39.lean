/-
  OPS: the document's Things 39.
-/
import Derived.Test.YtpepgoelnagoaaaGreatDoorMg16
import Derived.Test.YtpepgoelnagoaaaGreatDoorMg6
namespace Go.Proofs.YtpepgoelnagoaaaGreatDoor
open Go.RowKit Go.Shelf
set_option linter.unusedSimpArgs false
set_option linter.unusedVariables false
attribute [local go_sem] Oper.semAt_some

theorem ex_bool (p : Prop) : ∃ b : Bool, (b = true ↔ p) := by classical exact ⟨decide p, by simp⟩
theorem exec_lssT {ev : Operand → Value} {x y : Operand} {T : TypeId} {a b : Int} {w : World} (hx : ev x = .int .i64 a) (hy : ev y = .int .i64 b) (h : a < b) :
    (execOp ev { dst := none, op := .binOp .lss 3 x y 3, type := T, pos := "", after := #[], guard := none }).run Tryz.prog w = .ok (.value (.bool true)) w := by
  unfold execOp
  simp [hx, hy, go_sem, h]
theorem exec_lssF {ev : Operand → Value} {x y : Operand} {T : TypeId} {a b : Int} {w : World} (hx : ev x = .int .i64 a) (hy : ev y = .int .i64 b) (h : ¬ a < b) :
    (execOp ev { dst := none, op := .binOp .lss 3 x y 3, type := T, pos := "", after := #[], guard := none }).run Tryz.prog w = .ok (.value (.bool false)) w := by
  unfold execOp
  simp [hx, hy, go_sem]
  omega

set_option maxHeartbeats 8000000 in
set_option maxRecDepth 100000 in
theorem refThings_any (ao : Option Addr) (cap : Nat) (ps : List Od) (w : World) (hr : Rq w ao ps) (hlen : ps.length ≤ 100000) (hpl : ∀ o ∈ ps, o.p.length ≤ 1000000) (hsz : ∀ o ∈ ps, (∀ s ∈ o.p, s.size ≤ 9223372036854775807) ∧ o.s.size ≤ 9223372036854775807) :
    Calls Tryz.prog 39 #[.slice ao ps.length cap] w fun e w' => ∃ v, e = .returned v ∧ ∃ R : List Px, R.map (·.1) = insAllP [] (ps.map plOf) ∧ Pq w' w.heap.size v R ∧ Below w.heap.size w w' := by
  have HS0 := hide hsz
  clear hsz
  go_enter Tryz.func39, Tryz.ntmps39
  go_wp2
  go_loopw [3, 4] (fun v3 v4 wr => ∃ (j : Nat) (xs : List Px) (a3 : Option Addr) (c3 : Nat), j ≤ ps.length ∧ v4 = .int .i64 (j : Nat) ∧ v3 = .slice a3 xs.length c3 ∧ Hid (xs.map (·.1) = insAllP [] ((ps.map plOf).take j)) ∧ Hid (Pq wr w.heap.size (.slice a3 xs.length c3) xs) ∧ Hid (Below w.heap.size w wr))
    (fun _ v4 _ => ps.length - (intOf v4).toNat)
  case atStart => exact ⟨0, [], none, 0, Nat.zero_le _, rfl, rfl, hide rfl, hide (Pq.nil _ _), hide (Below.refl _ _)⟩
  case round =>
    obtain ⟨j, xs, a3, c3, hj, rfl, rfl, HX, HO, HB⟩ := hrel
    by_cases hlt : j < ps.length
    · obtain ⟨o, ho⟩ : ∃ q, ps[j]? = some q := ⟨_, List.getElem?_eq_getElem hlt⟩
      have hxl := hpl o (List.mem_of_getElem? ho)
      obtain ⟨ab, aoff, pa, pc, rfl, hp, c0, c1', c2, -, -, -⟩ := (hr.below HB.out) j o ho
      have hxslen : xs.length ≤ 100000 := by
        have h1 := congrArg List.length HX.out
        have h2 := insAllP_len ((ps.map plOf).take j) []
        rw [List.length_map] at h1
        rw [List.length_take, List.length_nil] at h2
        omega
      have hsy : ∀ y ∈ xs, (∀ s ∈ y.1.1, s.size ≤ 9223372036854775807) ∧ y.1.2.2.size ≤ 9223372036854775807 := fun y hy => by
        have h1 : y.1 ∈ xs.map (·.1) := List.mem_map_of_mem hy
        rw [HX.out] at h1
        rcases ((insAllP_ok ((ps.map plOf).take j) [] (by simp [SSp])).2 y.1).1 h1 with h2 | h2
        · cases h2
        · obtain ⟨o2, ho2, e⟩ := List.mem_map.1 (List.mem_of_mem_take h2)
          have := HS0.out o2 ho2
          rw [← e]
          exact this
      have hxz := HS0.out o (List.mem_of_getElem? ho)
      have hnext : insAllP [] ((ps.map plOf).take (j + 1)) = insP (plOf o) (xs.map (·.1)) := by
        have hk2 : (ps.map plOf)[j]? = some (plOf o) := by rw [List.getElem?_map, ho]; rfl
        rw [List.take_add_one, hk2, HX.out]
        exact insAllP_snoc _ _ _
      obtain ⟨xp, xk, xs', xd, xn, xt⟩ := o
      dsimp only [plOf] at c0 c1' c2 hp hxl hxz hnext
      have HN := hide (And.intro hnext (And.intro hsy (And.intro hxz hxl)))
      have HP := hide hp
      clear ho hsy hxz hnext hxl hp
      go_upto_region 5 with fail
      go_cut [5] (fun v5 wc => ∃ (pb : Nat) (a2 : Option Addr) (c2' : Nat), v5 = .pointer (some ⟨pb, 0, none⟩) ∧ Hid (wc.heap[pb]? = some (.cells #[.slice a2 xp.length c2', .int .i64 xk, .string xs'] 75 (0, 0))) ∧ Hid (Os wc w.heap.size (.slice a2 xp.length c2') xp) ∧ Hid (Below wr.heap.size wr wc))
      case first =>
        as_aux_lemma =>
          refine wp_region_held_drew (S := fun w' => w'.cell? ⟨ab, aoff + j * 6, none⟩ = some (.slice pa xp.length pc) ∧ w'.cell? ⟨ab, aoff + j * 6 + 1, none⟩ = some (.int .i64 xk) ∧ w'.cell? ⟨ab, aoff + j * 6 + 2, none⟩ = some (.string xs')) (by kernel_rfl) ⟨c0, c1', c2⟩ (fun hHeld => ?_)
          obtain ⟨Wd, hWd⟩ : ∃ r, r = wr.drew := ⟨_, rfl⟩
          have dd : Below wr.heap.size wr Wd := by rw [hWd]; exact (Below.refl _ _).drew
          rw [← hWd] at hHeld ⊢
          clear hWd c0 c1' c2
          refine take_op (i := 0) (d := 13) (OP := Op.move (Operand.tmp 0)) (T := 22) (v := ?vog1) rfl rfl rfl rfl (by kernel_rfl) (by kernel_rfl) (by kernel_rfl) (fun _ _ _ h => h) (by rfl) ?hog1 hHeld ?rog1
          case hog1 => (intro w' hSw; (try dsimp only at hSw); go_simp <;> with_reducible rfl)
          try simp only [Act.put, List.setIfInBounds_toArray, List.set_cons_zero, List.set_cons_succ]
          refine take_op (i := 1) (d := 14) (OP := Op.move (Operand.tmp 4)) (T := 3) (v := ?vog2) rfl rfl rfl rfl (by kernel_rfl) (by kernel_rfl) (by kernel_rfl) (fun _ _ _ h => h) (by rfl) ?hog2 hHeld ?rog2
          case hog2 => (intro w' hSw; (try dsimp only at hSw); go_simp <;> with_reducible rfl)
          try simp only [Act.put, List.setIfInBounds_toArray, List.set_cons_zero, List.set_cons_succ]
          refine take_op (i := 2) (d := 15) (OP := Op.indexAddr 22 (Operand.tmp 13) (Operand.tmp 14)) (T := 0) (v := (.pointer (some ⟨ab, aoff + j * 6, none⟩))) rfl rfl rfl rfl (by kernel_rfl) (by kernel_rfl) (by kernel_rfl) (fun _ _ _ h => h) (by rfl) ?hog3 hHeld ?rog3
          case hog3 => (intro w' hSw; exact exec_index22 (k := j) rfl rfl hlt)
          try simp only [Act.put, List.setIfInBounds_toArray, List.set_cons_zero, List.set_cons_succ]
          refine take_op (i := 3) (d := 16) (OP := Op.fieldAddr 34 (Operand.tmp 15) 0) (T := 0) (v := ?vog4) rfl rfl rfl rfl (by kernel_rfl) (by kernel_rfl) (by kernel_rfl) (fun _ _ _ h => h) (by rfl) ?hog4 hHeld ?rog4
          case hog4 => (intro w' hSw; (try dsimp only at hSw); go_simp <;> with_reducible rfl)
          try simp only [Act.put, List.setIfInBounds_toArray, List.set_cons_zero, List.set_cons_succ]
          refine take_op (i := 4) (d := 17) (OP := Op.load 30 (Operand.tmp 16)) (T := 30) (v := ?vog5) rfl rfl rfl rfl (by kernel_rfl) (by kernel_rfl) (by kernel_rfl) (fun _ _ _ h => h) (by rfl) ?hog5 hHeld ?rog5
          case hog5 => (intro w' hSw; (try dsimp only at hSw); go_simp <;> with_reducible rfl)
          try simp only [Act.put, List.setIfInBounds_toArray, List.set_cons_zero, List.set_cons_succ]
          refine take_op (i := 6) (d := 19) (OP := Op.move (Operand.tmp 0)) (T := 22) (v := ?vog6) rfl rfl rfl rfl (by kernel_rfl) (by kernel_rfl) (by kernel_rfl) (fun _ _ _ h => h) (by rfl) ?hog6 hHeld ?rog6
          case hog6 => (intro w' hSw; (try dsimp only at hSw); go_simp <;> with_reducible rfl)
          try simp only [Act.put, List.setIfInBounds_toArray, List.set_cons_zero, List.set_cons_succ]
          refine take_op (i := 7) (d := 20) (OP := Op.move (Operand.tmp 4)) (T := 3) (v := ?vog7) rfl rfl rfl rfl (by kernel_rfl) (by kernel_rfl) (by kernel_rfl) (fun _ _ _ h => h) (by rfl) ?hog7 hHeld ?rog7
          case hog7 => (intro w' hSw; (try dsimp only at hSw); go_simp <;> with_reducible rfl)
          try simp only [Act.put, List.setIfInBounds_toArray, List.set_cons_zero, List.set_cons_succ]
          refine take_op (i := 8) (d := 21) (OP := Op.indexAddr 22 (Operand.tmp 19) (Operand.tmp 20)) (T := 0) (v := (.pointer (some ⟨ab, aoff + j * 6, none⟩))) rfl rfl rfl rfl (by kernel_rfl) (by kernel_rfl) (by kernel_rfl) (fun _ _ _ h => h) (by rfl) ?hog8 hHeld ?rog8
          case hog8 => (intro w' hSw; exact exec_index22 (k := j) rfl rfl hlt)
          try simp only [Act.put, List.setIfInBounds_toArray, List.set_cons_zero, List.set_cons_succ]
          refine take_op (i := 9) (d := 22) (OP := Op.fieldAddr 34 (Operand.tmp 21) 1) (T := 0) (v := ?vog9) rfl rfl rfl rfl (by kernel_rfl) (by kernel_rfl) (by kernel_rfl) (fun _ _ _ h => h) (by rfl) ?hog9 hHeld ?rog9
          case hog9 => (intro w' hSw; (try dsimp only at hSw); go_simp <;> with_reducible rfl)
          try simp only [Act.put, List.setIfInBounds_toArray, List.set_cons_zero, List.set_cons_succ]
          refine take_op (i := 10) (d := 23) (OP := Op.load 31 (Operand.tmp 22)) (T := 31) (v := ?vog10) rfl rfl rfl rfl (by kernel_rfl) (by kernel_rfl) (by kernel_rfl) (fun _ _ _ h => h) (by rfl) ?hog10 hHeld ?rog10
          case hog10 => (intro w' hSw; (try dsimp only at hSw); go_simp <;> with_reducible rfl)
          try simp only [Act.put, List.setIfInBounds_toArray, List.set_cons_zero, List.set_cons_succ]
          refine take_op (i := 11) (d := 24) (OP := Op.move (Operand.tmp 0)) (T := 22) (v := ?vog11) rfl rfl rfl rfl (by kernel_rfl) (by kernel_rfl) (by kernel_rfl) (fun _ _ _ h => h) (by rfl) ?hog11 hHeld ?rog11
          case hog11 => (intro w' hSw; (try dsimp only at hSw); go_simp <;> with_reducible rfl)
          try simp only [Act.put, List.setIfInBounds_toArray, List.set_cons_zero, List.set_cons_succ]
          refine take_op (i := 12) (d := 25) (OP := Op.move (Operand.tmp 4)) (T := 3) (v := ?vog12) rfl rfl rfl rfl (by kernel_rfl) (by kernel_rfl) (by kernel_rfl) (fun _ _ _ h => h) (by rfl) ?hog12 hHeld ?rog12
          case hog12 => (intro w' hSw; (try dsimp only at hSw); go_simp <;> with_reducible rfl)
          try simp only [Act.put, List.setIfInBounds_toArray, List.set_cons_zero, List.set_cons_succ]
          refine take_op (i := 13) (d := 26) (OP := Op.indexAddr 22 (Operand.tmp 24) (Operand.tmp 25)) (T := 0) (v := (.pointer (some ⟨ab, aoff + j * 6, none⟩))) rfl rfl rfl rfl (by kernel_rfl) (by kernel_rfl) (by kernel_rfl) (fun _ _ _ h => h) (by rfl) ?hog13 hHeld ?rog13
          case hog13 => (intro w' hSw; exact exec_index22 (k := j) rfl rfl hlt)
          try simp only [Act.put, List.setIfInBounds_toArray, List.set_cons_zero, List.set_cons_succ]
          refine take_op (i := 14) (d := 27) (OP := Op.fieldAddr 34 (Operand.tmp 26) 2) (T := 0) (v := ?vog14) rfl rfl rfl rfl (by kernel_rfl) (by kernel_rfl) (by kernel_rfl) (fun _ _ _ h => h) (by rfl) ?hog14 hHeld ?rog14
          case hog14 => (intro w' hSw; (try dsimp only at hSw); go_simp <;> with_reducible rfl)
          try simp only [Act.put, List.setIfInBounds_toArray, List.set_cons_zero, List.set_cons_succ]
          refine take_op (i := 15) (d := 28) (OP := Op.load 9 (Operand.tmp 27)) (T := 9) (v := ?vog15) rfl rfl rfl rfl (by kernel_rfl) (by kernel_rfl) (by kernel_rfl) (fun _ _ _ h => h) (by rfl) ?hog15 hHeld ?rog15
          case hog15 => (intro w' hSw; (try dsimp only at hSw); go_simp <;> with_reducible rfl)
          try simp only [Act.put, List.setIfInBounds_toArray, List.set_cons_zero, List.set_cons_succ]
          obtain ⟨a2, c2', w2, hr2, hO2, hb2⟩ := copy_strs (HP.out.rs.below dd) HP.out.nil HN.out.2.2.2
          have b2 : Below wr.heap.size wr w2 := dd.trans (hb2.mono dd.size)
          have h2 := And.intro (Ki.cell_stays hHeld.1 hb2) (And.intro (Ki.cell_stays hHeld.2.1 hb2) (Ki.cell_stays hHeld.2.2 hb2))
          obtain ⟨u1, hu1⟩ : ∃ r, r = Wd.alloc (.cells #[.slice none 0 0, .int .i64 0, .string ⟨#[]⟩] 75) := ⟨_, rfl⟩
          have du : Below Wd.heap.size Wd u1 := by rw [hu1]; exact (Below.refl _ _).alloc (Nat.le_refl _) _
          have mu : u1.heap[Wd.heap.size]? = some (.cells #[.slice none 0 0, .int .i64 0, .string ⟨#[]⟩] 75 (0, 0)) := by rw [hu1]; exact heap_alloc_new _ _
          have hu := And.intro (Ki.cell_stays hHeld.1 du) (And.intro (Ki.cell_stays hHeld.2.1 du) (Ki.cell_stays hHeld.2.2 du))
          refine turns_op (i := 5) (di := 18) (OPi := Op.call { callee := Callee.builtin Builtin.append, args := #[Operand.const (Value.slice none 0 0), Operand.tmp 17], argTypes := #[30, 30] }) (Ti := 30) (j := 17) (dj := 5) (OPj := Op.alloc 75) (Tj := 0) (v := .slice a2 xp.length c2') (w1 := w2) (u := (.pointer (some ⟨Wd.heap.size, 0, none⟩))) (w2 := u1) rfl rfl rfl rfl rfl rfl rfl rfl (by kernel_rfl) (by rfl) (by rfl) (exec_append rfl rfl hr2) (by rw [hu1]; exact exec_alloc75) h2 hu ?_ ?_
          · try simp only [Act.put, List.setIfInBounds_toArray, List.set_cons_zero, List.set_cons_succ]
            clear hu mu du hu1 u1
            obtain ⟨z, hz⟩ : ∃ r, r = w2.alloc (.cells #[.slice none 0 0, .int .i64 0, .string ⟨#[]⟩] 75) := ⟨_, rfl⟩
            have dz : Below w2.heap.size w2 z := by rw [hz]; exact (Below.refl _ _).alloc (Nat.le_refl _) _
            have mz : z.heap[w2.heap.size]? = some (.cells #[.slice none 0 0, .int .i64 0, .string ⟨#[]⟩] 75 (0, 0)) := by rw [hz]; exact heap_alloc_new _ _
            have h3 := And.intro (Ki.cell_stays h2.1 dz) (And.intro (Ki.cell_stays h2.2.1 dz) (Ki.cell_stays h2.2.2 dz))
            have hOw : Os w2 w.heap.size (.slice a2 xp.length c2') xp := row_lift hO2 (Nat.le_trans HB.out.size dd.size)
            have hOz := hOw.below dz
            have hbx : wr.heap.size ≤ w2.heap.size := b2.size
            have hab : ¬ ((⟨ab, aoff + j * 6, none⟩ : Addr).block = w2.heap.size) := fun e => by have := World.block_lt_of_cell? _ _ h2.1; simp only at this e; omega
            have hon : ∀ k, (Value.slice a2 xp.length c2').ownBlock = some k → k = w2.heap.size → False := fun k hk e => by have := (World.ownsRow.lt hO2 k hk).2; omega
            refine take_op (i := 16) (d := 29) (OP := Op.build 75 #[(0, Operand.tmp 18), (1, Operand.tmp 23), (2, Operand.tmp 28)]) (T := 75) (v := ?vog16) rfl rfl rfl rfl (by kernel_rfl) (by kernel_rfl) (by kernel_rfl) (fun _ _ _ h => h) (by rfl) ?hog16 h2 ?rog16
            case hog16 => (intro w' hSw; (try dsimp only at hSw); go_simp <;> with_reducible rfl)
            try simp only [Act.put, List.setIfInBounds_toArray, List.set_cons_zero, List.set_cons_succ]
            refine turn_op (i := 17) (d := 5) (OP := Op.alloc 75) (T := 0) (v := (.pointer (some ⟨w2.heap.size, 0, none⟩))) (w' := z) rfl rfl rfl rfl (by kernel_rfl) (by rfl) (by rw [hz]; exact exec_alloc75) h3 ?_
            try simp only [Act.put, List.setIfInBounds_toArray, List.set_cons_zero, List.set_cons_succ]
            obtain ⟨s1, so⟩ := store3 mz (.slice a2 xp.length c2') (.int .i64 xk) (.string xs')
            obtain ⟨x0, x1, x2, f0, f1, f2⟩ := blk3 mz
            have hbs : Below wr.heap.size wr (((z.setCell ⟨w2.heap.size, 0, none⟩ (.slice a2 xp.length c2')).setCell ⟨w2.heap.size, 1, none⟩ (.int .i64 xk)).setCell ⟨w2.heap.size, 2, none⟩ (.string xs')) := (b2.trans (dz.mono b2.size)).trans (so.below (by have := (b2.trans (dz.mono b2.size)).size; exact this) (fun k hk => by rw [hk]; exact hbx))
            have hOs : Os (((z.setCell ⟨w2.heap.size, 0, none⟩ (.slice a2 xp.length c2')).setCell ⟨w2.heap.size, 1, none⟩ (.int .i64 xk)).setCell ⟨w2.heap.size, 2, none⟩ (.string xs')) w.heap.size (.slice a2 xp.length c2') xp := (hOz).only so (fun k hk hd => hon k hk hd)
            have hs := And.intro (so.cell h3.1 hab) (And.intro (so.cell h3.2.1 hab) (so.cell h3.2.2 hab))
            refine skip_op (i := 18) (OP := Op.store 75 (Operand.tmp 5) (Operand.tmp 29)) (T := 0) (w' := (((z.setCell ⟨w2.heap.size, 0, none⟩ (.slice a2 xp.length c2')).setCell ⟨w2.heap.size, 1, none⟩ (.int .i64 xk)).setCell ⟨w2.heap.size, 2, none⟩ (.string xs'))) rfl rfl rfl rfl (by kernel_rfl) (by rfl) (by go_simp <;> with_reducible rfl) ⟨hs, ?_⟩
            refine wpAnyH_done (by kernel_rfl) ?_ _
            have HA := And.intro (hide s1) (And.intro (hide hOs) (hide hbs))
            clear s1 hOs hbs hs so x0 x1 x2 f0 f1 f2 mz
            obtain ⟨w7, hw7⟩ : ∃ r, r = (((z.setCell ⟨w2.heap.size, 0, none⟩ (.slice a2 xp.length c2')).setCell ⟨w2.heap.size, 1, none⟩ (.int .i64 xk)).setCell ⟨w2.heap.size, 2, none⟩ (.string xs')) := ⟨_, rfl⟩
            rw [← hw7] at HA ⊢
            clear hw7
            (try go_wp2)
            go_meet
            exact ⟨_, a2, c2', rfl, HA⟩
          · try simp only [Act.put, List.setIfInBounds_toArray, List.set_cons_zero, List.set_cons_succ]
            clear h2 b2 hO2 hb2 hr2 w2 c2' a2
            have bu : Below wr.heap.size wr u1 := dd.trans (du.mono dd.size)
            obtain ⟨a2, c2', z, hr2, hO2, hb2⟩ := copy_strs (HP.out.rs.below bu) HP.out.nil HN.out.2.2.2
            have mz : z.heap[Wd.heap.size]? = some (.cells #[.slice none 0 0, .int .i64 0, .string ⟨#[]⟩] 75 (0, 0)) := (hb2.block _ ((Array.getElem?_eq_some_iff.1 mu).1)).trans mu
            have h3 := And.intro (Ki.cell_stays hu.1 hb2) (And.intro (Ki.cell_stays hu.2.1 hb2) (Ki.cell_stays hu.2.2 hb2))
            have hOz : Os z w.heap.size (.slice a2 xp.length c2') xp := row_lift hO2 (Nat.le_trans HB.out.size bu.size)
            have hbx : wr.heap.size ≤ Wd.heap.size := dd.size
            have hab : ¬ ((⟨ab, aoff + j * 6, none⟩ : Addr).block = Wd.heap.size) := fun e => by have := World.block_lt_of_cell? _ _ hHeld.1; simp only at this e; omega
            have hon : ∀ k, (Value.slice a2 xp.length c2').ownBlock = some k → k = Wd.heap.size → False := fun k hk e => by have := (World.ownsRow.lt hO2 k hk).1; have := (Array.getElem?_eq_some_iff.1 mu).1; omega
            refine turn_op (i := 5) (d := 18) (OP := Op.call { callee := Callee.builtin Builtin.append, args := #[Operand.const (Value.slice none 0 0), Operand.tmp 17], argTypes := #[30, 30] }) (T := 30) (v := (.slice a2 xp.length c2')) (w' := z) rfl rfl rfl rfl (by kernel_rfl) (by rfl) (exec_append rfl rfl hr2) h3 ?_
            try simp only [Act.put, List.setIfInBounds_toArray, List.set_cons_zero, List.set_cons_succ]
            refine take_op (i := 16) (d := 29) (OP := Op.build 75 #[(0, Operand.tmp 18), (1, Operand.tmp 23), (2, Operand.tmp 28)]) (T := 75) (v := ?vog17) rfl rfl rfl rfl (by kernel_rfl) (by kernel_rfl) (by kernel_rfl) (fun _ _ _ h => h) (by rfl) ?hog17 h3 ?rog17
            case hog17 => (intro w' hSw; (try dsimp only at hSw); go_simp <;> with_reducible rfl)
            try simp only [Act.put, List.setIfInBounds_toArray, List.set_cons_zero, List.set_cons_succ]
            obtain ⟨s1, so⟩ := store3 mz (.slice a2 xp.length c2') (.int .i64 xk) (.string xs')
            obtain ⟨x0, x1, x2, f0, f1, f2⟩ := blk3 mz
            have hbs : Below wr.heap.size wr (((z.setCell ⟨Wd.heap.size, 0, none⟩ (.slice a2 xp.length c2')).setCell ⟨Wd.heap.size, 1, none⟩ (.int .i64 xk)).setCell ⟨Wd.heap.size, 2, none⟩ (.string xs')) := (bu.trans (hb2.mono bu.size)).trans (so.below (by have := (bu.trans (hb2.mono bu.size)).size; exact this) (fun k hk => by rw [hk]; exact hbx))
            have hOs : Os (((z.setCell ⟨Wd.heap.size, 0, none⟩ (.slice a2 xp.length c2')).setCell ⟨Wd.heap.size, 1, none⟩ (.int .i64 xk)).setCell ⟨Wd.heap.size, 2, none⟩ (.string xs')) w.heap.size (.slice a2 xp.length c2') xp := (hOz).only so (fun k hk hd => hon k hk hd)
            have hs := And.intro (so.cell h3.1 hab) (And.intro (so.cell h3.2.1 hab) (so.cell h3.2.2 hab))
            refine skip_op (i := 18) (OP := Op.store 75 (Operand.tmp 5) (Operand.tmp 29)) (T := 0) (w' := (((z.setCell ⟨Wd.heap.size, 0, none⟩ (.slice a2 xp.length c2')).setCell ⟨Wd.heap.size, 1, none⟩ (.int .i64 xk)).setCell ⟨Wd.heap.size, 2, none⟩ (.string xs'))) rfl rfl rfl rfl (by kernel_rfl) (by rfl) (by go_simp <;> with_reducible rfl) ⟨hs, ?_⟩
            refine wpAnyH_done (by kernel_rfl) ?_ _
            have HA := And.intro (hide s1) (And.intro (hide hOs) (hide hbs))
            clear s1 hOs hbs hs so x0 x1 x2 f0 f1 f2 mz
            obtain ⟨w7, hw7⟩ : ∃ r, r = (((z.setCell ⟨Wd.heap.size, 0, none⟩ (.slice a2 xp.length c2')).setCell ⟨Wd.heap.size, 1, none⟩ (.int .i64 xk)).setCell ⟨Wd.heap.size, 2, none⟩ (.string xs')) := ⟨_, rfl⟩
            rw [← hw7] at HA ⊢
            clear hw7
            (try go_wp2)
            go_meet
            exact ⟨_, a2, c2', rfl, HA⟩
      case rest =>
        obtain ⟨pb, a2, c2', rfl, HBX, HO2, HB2⟩ := hcut
        have hQ : Pq wc w.heap.size (.slice a3 xs.length c3) xs := HO.out.below HB2.out
        have hBq : Below w.heap.size w wc := HB.out.trans (HB2.out.mono HB.out.size)
        have HQ := hide hQ
        have HBq := hide hBq
        have hpb : pb < wc.heap.size := (Array.getElem?_eq_some_iff.1 HBX.out).1
        clear hQ hBq c0 c1' c2
        obtain ⟨wq, hwq⟩ : ∃ r, r = wc := ⟨_, rfl⟩
        subst hwq
        obtain ⟨P, hP⟩ : ∃ P, P = posP (xp, xk, xs') (xs.map (·.1)) := ⟨_, rfl⟩
        have hPle : P ≤ xs.length := by
          have := posP_le (xp, xk, xs') (xs.map (·.1))
          rw [List.length_map] at this
          omega
        have HPP := hide hP
        clear hP HB2 HO HB
        go_upto_region 6 with fail
        go_wp2
        go_loopw [6] (fun v6 wr => ∃ n : Nat, v6 = .int .i64 (n : Nat) ∧ n ≤ P ∧ Hid (Below wq.heap.size wq wr)) (fun v6 _ => P - (intOf v6).toNat)
        case atStart => exact ⟨0, rfl, Nat.zero_le _, hide (Below.refl _ _)⟩
        case round =>
          obtain ⟨n, rfl, hn, HI⟩ := hrel
          go_upto_region 7 with fail
          go_cut [42] (fun v42 wc => v42 = .bool (decide (n < P)) ∧ Hid (Below wr.heap.size wr wc))
          case first =>
            as_aux_lemma =>
              by_cases hnl : n < xs.length
              · obtain ⟨y, hy⟩ : ∃ r, xs[n]? = some r := ⟨_, List.getElem?_eq_getElem hnl⟩
                have hyL : (xs.map (·.1))[n]? = some y.1 := by rw [List.getElem?_map, hy]; rfl
                obtain ⟨ro, hspot, -, -, -⟩ := (HQ.out.row.below HI.out).rpo
                obtain ⟨g, og, rfl, c0, c1, c2⟩ := ro.at hspot hy
                obtain ⟨b0, b1, b2, -, -, -⟩ := blk3 ((HI.out.block _ hpb).trans HBX.out)
                have hnz : (n : Int) < (xs.length : Int) := by omega
                refine wp_region_held_drew (S := fun w' => (w'.cell? ⟨g, og + n * 3, none⟩ = some (.slice y.2.1 y.1.1.length y.2.2) ∧ w'.cell? ⟨g, og + n * 3 + 1, none⟩ = some (.int .i64 y.1.2.1) ∧ w'.cell? ⟨g, og + n * 3 + 2, none⟩ = some (.string y.1.2.2)) ∧ (w'.cell? ⟨pb, 0, none⟩ = some (.slice a2 xp.length c2') ∧ w'.cell? ⟨pb, 1, none⟩ = some (.int .i64 xk) ∧ w'.cell? ⟨pb, 2, none⟩ = some (.string xs'))) (by kernel_rfl) ⟨⟨c0, c1, c2⟩, b0, b1, b2⟩ (fun hHeld => ?_)
                have hbd : Below wr.heap.size wr wr.drew := (Below.refl _ _).drew
                obtain ⟨Wd, hWd⟩ : ∃ r, r = wr.drew := ⟨_, rfl⟩
                rw [← hWd] at hHeld hbd ⊢
                clear hWd c0 c1 c2 b0 b1 b2 ro hspot
                have hbq : Below wq.heap.size wq Wd := HI.out.trans (hbd.mono HI.out.size)
                have hsy := HN.out.2.1 y (List.mem_of_getElem? hy)
                have k40 : Calls Tryz.prog 40 #[plV y, .agg #[.slice a2 xp.length c2', .int .i64 xk, .string xs']] Wd fun e w' => e = .returned (.int .i64 (cfL y.1 (xp, xk, xs'))) ∧ Below Wd.heap.size Wd w' := refCmpPlace_any (c := y.2.2) (d := c2') y.1.2.1 xk y.1.2.2 xs' ((HQ.out.path y (List.mem_of_getElem? hy)).below hbq).rsq ((HO2.out.below hbq).rsq) (by have := HQ.out.plen y (List.mem_of_getElem? hy); omega) hsy.1 hsy.2
                clear hsy hbq
                refine take_op (i := 0) (d := 30) (OP := Op.move (Operand.tmp 6)) (T := 3) (v := ?vog18) rfl rfl rfl rfl (by kernel_rfl) (by kernel_rfl) (by kernel_rfl) (fun _ _ _ h => h) (by rfl) ?hog18 hHeld ?rog18
                case hog18 => (intro w' hSw; (try dsimp only at hSw); go_simp <;> with_reducible rfl)
                try simp only [Act.put, List.setIfInBounds_toArray, List.set_cons_zero, List.set_cons_succ]
                refine take_op (i := 1) (d := 31) (OP := Op.move (Operand.tmp 3)) (T := 70) (v := ?vog19) rfl rfl rfl rfl (by kernel_rfl) (by kernel_rfl) (by kernel_rfl) (fun _ _ _ h => h) (by rfl) ?hog19 hHeld ?rog19
                case hog19 => (intro w' hSw; (try dsimp only at hSw); go_simp <;> with_reducible rfl)
                try simp only [Act.put, List.setIfInBounds_toArray, List.set_cons_zero, List.set_cons_succ]
                refine take_op (i := 2) (d := 32) (OP := Op.call { callee := Callee.builtin Builtin.len, args := #[Operand.tmp 31], argTypes := #[70] }) (T := 3) (v := ?vog20) rfl rfl rfl rfl (by kernel_rfl) (by kernel_rfl) (by kernel_rfl) (fun _ _ _ h => h) (by rfl) ?hog20 hHeld ?rog20
                case hog20 => (intro w' hSw; (try dsimp only at hSw); go_simp <;> with_reducible rfl)
                try simp only [Act.put, List.setIfInBounds_toArray, List.set_cons_zero, List.set_cons_succ]
                refine take_op (i := 3) (d := 33) (OP := Op.binOp BinOp.lss 3 (Operand.tmp 30) (Operand.tmp 32) 3) (T := 4) (v := (.bool true)) rfl rfl rfl rfl (by kernel_rfl) (by kernel_rfl) (by kernel_rfl) (fun _ _ _ h => h) (by rfl) ?hog21 hHeld ?rog21
                case hog21 => (intro w' hSw; exact exec_lssT rfl rfl hnz)
                try simp only [Act.put, List.setIfInBounds_toArray, List.set_cons_zero, List.set_cons_succ]
                refine take_op (i := 4) (d := 34) (OP := Op.move (Operand.tmp 33)) (T := 4) (v := ?vog22) rfl rfl rfl rfl (by kernel_rfl) (by kernel_rfl) (by kernel_rfl) (fun _ _ _ h => h) (by rfl) ?hog22 hHeld ?rog22
                case hog22 => (intro w' hSw; (try dsimp only at hSw); go_simp <;> with_reducible rfl)
                try simp only [Act.put, List.setIfInBounds_toArray, List.set_cons_zero, List.set_cons_succ]
                refine take_op (i := 5) (d := 35) (OP := Op.move (Operand.tmp 3)) (T := 70) (v := ?vog23) rfl rfl rfl rfl (by kernel_rfl) (by kernel_rfl) (by kernel_rfl) (fun _ _ _ h => h) (by rfl) ?hog23 hHeld ?rog23
                case hog23 => (intro w' hSw; (try dsimp only at hSw); go_simp <;> with_reducible rfl)
                try simp only [Act.put, List.setIfInBounds_toArray, List.set_cons_zero, List.set_cons_succ]
                refine take_op (i := 6) (d := 36) (OP := Op.move (Operand.tmp 6)) (T := 3) (v := ?vog24) rfl rfl rfl rfl (by kernel_rfl) (by kernel_rfl) (by kernel_rfl) (fun _ _ _ h => h) (by rfl) ?hog24 hHeld ?rog24
                case hog24 => (intro w' hSw; (try dsimp only at hSw); go_simp <;> with_reducible rfl)
                try simp only [Act.put, List.setIfInBounds_toArray, List.set_cons_zero, List.set_cons_succ]
                refine take_op (i := 7) (d := 37) (OP := Op.indexAddr 70 (Operand.tmp 35) (Operand.tmp 36)) (T := 0) (v := (.pointer (some ⟨g, og + n * 3, none⟩))) rfl rfl rfl rfl (by kernel_rfl) (by kernel_rfl) (by kernel_rfl) (fun _ _ _ h => h) (by rfl) ?hog25 hHeld ?rog25
                case hog25 => (intro w' hSw; exact exec_ixP rfl rfl hnz)
                try simp only [Act.put, List.setIfInBounds_toArray, List.set_cons_zero, List.set_cons_succ]
                refine take_op (i := 8) (d := 38) (OP := Op.load 75 (Operand.tmp 37)) (T := 75) (v := ?vog26) rfl rfl rfl rfl (by kernel_rfl) (by kernel_rfl) (by kernel_rfl) (fun _ _ _ h => h) (by rfl) ?hog26 hHeld ?rog26
                case hog26 => (intro w' hSw; (try dsimp only at hSw); go_simp <;> with_reducible rfl)
                try simp only [Act.put, List.setIfInBounds_toArray, List.set_cons_zero, List.set_cons_succ]
                refine take_op (i := 9) (d := 39) (OP := Op.load 75 (Operand.tmp 5)) (T := 75) (v := ?vog27) rfl rfl rfl rfl (by kernel_rfl) (by kernel_rfl) (by kernel_rfl) (fun _ _ _ h => h) (by rfl) ?hog27 hHeld ?rog27
                case hog27 => (intro w' hSw; (try dsimp only at hSw); go_simp <;> with_reducible rfl)
                try simp only [Act.put, List.setIfInBounds_toArray, List.set_cons_zero, List.set_cons_succ]
                rcases cfL_range y.1 (xp, xk, xs') with hC | hC | hC
                · rw [hC] at k40
                  refine call_op (i := 10) (d := 40) (OP := Op.call { callee := Callee.value (Operand.func 40), args := #[Operand.tmp 38, Operand.tmp 39], argTypes := #[75, 75] }) (T := 3) (f := 40) (args := #[plV y, .agg #[.slice a2 xp.length c2', .int .i64 xk, .string xs']]) rfl rfl rfl rfl (by kernel_rfl) (by rfl) (by go_simp) ?_
                  refine k40.mono ?_
                  rintro e y1 ⟨rfl, by1⟩
                  have hb1 := hbd.trans (by1.mono hbd.size)
                  have hh1 := And.intro (And.intro (Ki.cell_stays hHeld.1.1 by1) (And.intro (Ki.cell_stays hHeld.1.2.1 by1) (Ki.cell_stays hHeld.1.2.2 by1))) (And.intro (Ki.cell_stays hHeld.2.1 by1) (And.intro (Ki.cell_stays hHeld.2.2.1 by1) (Ki.cell_stays hHeld.2.2.2 by1)))
                  refine ⟨_, rfl, hh1, ?_⟩
                  replace hHeld := hh1
                  try simp only [Act.put, List.setIfInBounds_toArray, List.set_cons_zero, List.set_cons_succ]
                  refine take_op (i := 11) (d := 41) (OP := Op.binOp BinOp.lss 3 (Operand.tmp 40) (Operand.const (Value.int IntKind.i64 0)) 3) (T := 4) (v := (.bool true)) rfl rfl rfl rfl (by kernel_rfl) (by kernel_rfl) (by kernel_rfl) (fun _ _ _ h => h) (by rfl) ?hog28 hHeld ?rog28
                  case hog28 => (intro w' hSw; (try dsimp only at hSw); go_simp <;> with_reducible rfl)
                  try simp only [Act.put, List.setIfInBounds_toArray, List.set_cons_zero, List.set_cons_succ]
                  refine take_op (i := 12) (d := 42) (OP := Op.pick (Operand.tmp 34) (Operand.tmp 41) (Operand.const (Value.bool false))) (T := 4) (v := (.bool true)) rfl rfl rfl rfl (by kernel_rfl) (by kernel_rfl) (by kernel_rfl) (fun _ _ _ h => h) (by rfl) ?hog29 hHeld ?rog29
                  case hog29 => (intro w' hSw; (try dsimp only at hSw); go_simp <;> with_reducible rfl)
                  try simp only [Act.put, List.setIfInBounds_toArray, List.set_cons_zero, List.set_cons_succ]
                  refine wpAnyH_done (by kernel_rfl) ?_ _
                  have HJ := hide hb1
                  clear hb1 hh1 hHeld by1 k40 hbd
                  (try go_wp2)
                  go_meet
                  exact ⟨by rw [decide_eq_true (show n < P from Nat.lt_of_not_le (fun h => absurd hC (posP_at (xp, xk, xs') (xs.map (·.1)) y.1 (by rw [← HPP.out, show P = n by omega]; exact hyL))))], HJ⟩
                · rw [hC] at k40
                  refine call_op (i := 10) (d := 40) (OP := Op.call { callee := Callee.value (Operand.func 40), args := #[Operand.tmp 38, Operand.tmp 39], argTypes := #[75, 75] }) (T := 3) (f := 40) (args := #[plV y, .agg #[.slice a2 xp.length c2', .int .i64 xk, .string xs']]) rfl rfl rfl rfl (by kernel_rfl) (by rfl) (by go_simp) ?_
                  refine k40.mono ?_
                  rintro e y1 ⟨rfl, by1⟩
                  have hb1 := hbd.trans (by1.mono hbd.size)
                  have hh1 := And.intro (And.intro (Ki.cell_stays hHeld.1.1 by1) (And.intro (Ki.cell_stays hHeld.1.2.1 by1) (Ki.cell_stays hHeld.1.2.2 by1))) (And.intro (Ki.cell_stays hHeld.2.1 by1) (And.intro (Ki.cell_stays hHeld.2.2.1 by1) (Ki.cell_stays hHeld.2.2.2 by1)))
                  refine ⟨_, rfl, hh1, ?_⟩
                  replace hHeld := hh1
                  try simp only [Act.put, List.setIfInBounds_toArray, List.set_cons_zero, List.set_cons_succ]
                  refine take_op (i := 11) (d := 41) (OP := Op.binOp BinOp.lss 3 (Operand.tmp 40) (Operand.const (Value.int IntKind.i64 0)) 3) (T := 4) (v := (.bool false)) rfl rfl rfl rfl (by kernel_rfl) (by kernel_rfl) (by kernel_rfl) (fun _ _ _ h => h) (by rfl) ?hog30 hHeld ?rog30
                  case hog30 => (intro w' hSw; (try dsimp only at hSw); go_simp <;> with_reducible rfl)
                  try simp only [Act.put, List.setIfInBounds_toArray, List.set_cons_zero, List.set_cons_succ]
                  refine take_op (i := 12) (d := 42) (OP := Op.pick (Operand.tmp 34) (Operand.tmp 41) (Operand.const (Value.bool false))) (T := 4) (v := (.bool false)) rfl rfl rfl rfl (by kernel_rfl) (by kernel_rfl) (by kernel_rfl) (fun _ _ _ h => h) (by rfl) ?hog31 hHeld ?rog31
                  case hog31 => (intro w' hSw; (try dsimp only at hSw); go_simp <;> with_reducible rfl)
                  try simp only [Act.put, List.setIfInBounds_toArray, List.set_cons_zero, List.set_cons_succ]
                  refine wpAnyH_done (by kernel_rfl) ?_ _
                  have HJ := hide hb1
                  clear hb1 hh1 hHeld by1 k40 hbd
                  (try go_wp2)
                  go_meet
                  exact ⟨by rw [decide_eq_false (show ¬ n < P from fun h => by have := posP_lt (xp, xk, xs') (xs.map (·.1)) n y.1 hyL (by rw [← HPP.out]; exact h); omega)], HJ⟩
                · rw [hC] at k40
                  refine call_op (i := 10) (d := 40) (OP := Op.call { callee := Callee.value (Operand.func 40), args := #[Operand.tmp 38, Operand.tmp 39], argTypes := #[75, 75] }) (T := 3) (f := 40) (args := #[plV y, .agg #[.slice a2 xp.length c2', .int .i64 xk, .string xs']]) rfl rfl rfl rfl (by kernel_rfl) (by rfl) (by go_simp) ?_
                  refine k40.mono ?_
                  rintro e y1 ⟨rfl, by1⟩
                  have hb1 := hbd.trans (by1.mono hbd.size)
                  have hh1 := And.intro (And.intro (Ki.cell_stays hHeld.1.1 by1) (And.intro (Ki.cell_stays hHeld.1.2.1 by1) (Ki.cell_stays hHeld.1.2.2 by1))) (And.intro (Ki.cell_stays hHeld.2.1 by1) (And.intro (Ki.cell_stays hHeld.2.2.1 by1) (Ki.cell_stays hHeld.2.2.2 by1)))
                  refine ⟨_, rfl, hh1, ?_⟩
                  replace hHeld := hh1
                  try simp only [Act.put, List.setIfInBounds_toArray, List.set_cons_zero, List.set_cons_succ]
                  refine take_op (i := 11) (d := 41) (OP := Op.binOp BinOp.lss 3 (Operand.tmp 40) (Operand.const (Value.int IntKind.i64 0)) 3) (T := 4) (v := (.bool false)) rfl rfl rfl rfl (by kernel_rfl) (by kernel_rfl) (by kernel_rfl) (fun _ _ _ h => h) (by rfl) ?hog32 hHeld ?rog32
                  case hog32 => (intro w' hSw; (try dsimp only at hSw); go_simp <;> with_reducible rfl)
                  try simp only [Act.put, List.setIfInBounds_toArray, List.set_cons_zero, List.set_cons_succ]
                  refine take_op (i := 12) (d := 42) (OP := Op.pick (Operand.tmp 34) (Operand.tmp 41) (Operand.const (Value.bool false))) (T := 4) (v := (.bool false)) rfl rfl rfl rfl (by kernel_rfl) (by kernel_rfl) (by kernel_rfl) (fun _ _ _ h => h) (by rfl) ?hog33 hHeld ?rog33
                  case hog33 => (intro w' hSw; (try dsimp only at hSw); go_simp <;> with_reducible rfl)
                  try simp only [Act.put, List.setIfInBounds_toArray, List.set_cons_zero, List.set_cons_succ]
                  refine wpAnyH_done (by kernel_rfl) ?_ _
                  have HJ := hide hb1
                  clear hb1 hh1 hHeld by1 k40 hbd
                  (try go_wp2)
                  go_meet
                  exact ⟨by rw [decide_eq_false (show ¬ n < P from fun h => by have := posP_lt (xp, xk, xs') (xs.map (·.1)) n y.1 hyL (by rw [← HPP.out]; exact h); omega)], HJ⟩
              · have hnz : ¬ (n : Int) < (xs.length : Int) := by omega
                refine wp_region_held_drew (S := fun _ => True) (by kernel_rfl) trivial (fun hHeld => ?_)
                have hbd : Below wr.heap.size wr wr.drew := (Below.refl _ _).drew
                obtain ⟨Wd, hWd⟩ : ∃ r, r = wr.drew := ⟨_, rfl⟩
                rw [← hWd] at hbd ⊢
                clear hWd hHeld
                refine take_op (i := 0) (d := 30) (OP := Op.move (Operand.tmp 6)) (T := 3) (v := ?vog34) rfl rfl rfl rfl (by kernel_rfl) (by kernel_rfl) (by kernel_rfl) (fun _ _ _ h => h) (by rfl) ?hog34 trivial ?rog34
                case hog34 => (intro w' hSw; (try dsimp only at hSw); go_simp <;> with_reducible rfl)
                try simp only [Act.put, List.setIfInBounds_toArray, List.set_cons_zero, List.set_cons_succ]
                refine take_op (i := 1) (d := 31) (OP := Op.move (Operand.tmp 3)) (T := 70) (v := ?vog35) rfl rfl rfl rfl (by kernel_rfl) (by kernel_rfl) (by kernel_rfl) (fun _ _ _ h => h) (by rfl) ?hog35 trivial ?rog35
                case hog35 => (intro w' hSw; (try dsimp only at hSw); go_simp <;> with_reducible rfl)
                try simp only [Act.put, List.setIfInBounds_toArray, List.set_cons_zero, List.set_cons_succ]
                refine take_op (i := 2) (d := 32) (OP := Op.call { callee := Callee.builtin Builtin.len, args := #[Operand.tmp 31], argTypes := #[70] }) (T := 3) (v := ?vog36) rfl rfl rfl rfl (by kernel_rfl) (by kernel_rfl) (by kernel_rfl) (fun _ _ _ h => h) (by rfl) ?hog36 trivial ?rog36
                case hog36 => (intro w' hSw; (try dsimp only at hSw); go_simp <;> with_reducible rfl)
                try simp only [Act.put, List.setIfInBounds_toArray, List.set_cons_zero, List.set_cons_succ]
                refine take_op (i := 3) (d := 33) (OP := Op.binOp BinOp.lss 3 (Operand.tmp 30) (Operand.tmp 32) 3) (T := 4) (v := (.bool false)) rfl rfl rfl rfl (by kernel_rfl) (by kernel_rfl) (by kernel_rfl) (fun _ _ _ h => h) (by rfl) ?hog37 trivial ?rog37
                case hog37 => (intro w' hSw; exact exec_lssF rfl rfl hnz)
                try simp only [Act.put, List.setIfInBounds_toArray, List.set_cons_zero, List.set_cons_succ]
                refine take_op (i := 4) (d := 34) (OP := Op.move (Operand.tmp 33)) (T := 4) (v := ?vog38) rfl rfl rfl rfl (by kernel_rfl) (by kernel_rfl) (by kernel_rfl) (fun _ _ _ h => h) (by rfl) ?hog38 trivial ?rog38
                case hog38 => (intro w' hSw; (try dsimp only at hSw); go_simp <;> with_reducible rfl)
                try simp only [Act.put, List.setIfInBounds_toArray, List.set_cons_zero, List.set_cons_succ]
                refine pass_op (i := 5) (d := 35) rfl rfl (by kernel_rfl) (by kernel_rfl) (by kernel_rfl) (fun _ _ _ h => h) (by rfl) trivial ?_
                try simp only [Act.put, List.setIfInBounds_toArray, List.set_cons_zero, List.set_cons_succ]
                refine pass_op (i := 6) (d := 36) rfl rfl (by kernel_rfl) (by kernel_rfl) (by kernel_rfl) (fun _ _ _ h => h) (by rfl) trivial ?_
                try simp only [Act.put, List.setIfInBounds_toArray, List.set_cons_zero, List.set_cons_succ]
                refine pass_op (i := 7) (d := 37) rfl rfl (by kernel_rfl) (by kernel_rfl) (by kernel_rfl) (fun _ _ _ h => h) (by rfl) trivial ?_
                try simp only [Act.put, List.setIfInBounds_toArray, List.set_cons_zero, List.set_cons_succ]
                refine pass_op (i := 8) (d := 38) rfl rfl (by kernel_rfl) (by kernel_rfl) (by kernel_rfl) (fun _ _ _ h => h) (by rfl) trivial ?_
                try simp only [Act.put, List.setIfInBounds_toArray, List.set_cons_zero, List.set_cons_succ]
                refine pass_op (i := 9) (d := 39) rfl rfl (by kernel_rfl) (by kernel_rfl) (by kernel_rfl) (fun _ _ _ h => h) (by rfl) trivial ?_
                try simp only [Act.put, List.setIfInBounds_toArray, List.set_cons_zero, List.set_cons_succ]
                refine pass_op (i := 10) (d := 40) rfl rfl (by kernel_rfl) (by kernel_rfl) (by kernel_rfl) (fun _ _ _ h => h) (by rfl) trivial ?_
                try simp only [Act.put, List.setIfInBounds_toArray, List.set_cons_zero, List.set_cons_succ]
                refine pass_op (i := 11) (d := 41) rfl rfl (by kernel_rfl) (by kernel_rfl) (by kernel_rfl) (fun _ _ _ h => h) (by rfl) trivial ?_
                try simp only [Act.put, List.setIfInBounds_toArray, List.set_cons_zero, List.set_cons_succ]
                refine take_op (i := 12) (d := 42) (OP := Op.pick (Operand.tmp 34) (Operand.tmp 41) (Operand.const (Value.bool false))) (T := 4) (v := (.bool false)) rfl rfl rfl rfl (by kernel_rfl) (by kernel_rfl) (by kernel_rfl) (fun _ _ _ h => h) (by rfl) ?hog39 trivial ?rog39
                case hog39 => (intro w' hSw; (try dsimp only at hSw); go_simp <;> with_reducible rfl)
                try simp only [Act.put, List.setIfInBounds_toArray, List.set_cons_zero, List.set_cons_succ]
                refine wpAnyH_done (by kernel_rfl) ?_ _
                have HJ := hide hbd
                clear hbd
                (try go_wp2)
                go_meet
                exact ⟨by rw [decide_eq_false (by omega)], HJ⟩
          case rest =>
            obtain ⟨rfl, HJ⟩ := hcut
            have hz : Below wq.heap.size wq wc := HI.out.trans (HJ.out.mono HI.out.size)
            have HZ := hide hz
            clear hz HJ HI
            by_cases hnp : n < P
            · rw [decide_eq_true hnp]
              go_wp2
              go_roundw
              case rel => exact ⟨n + 1, by go_num, by omega, HZ⟩
              case measure => simp [intOf]; omega
            · rw [decide_eq_false hnp]
              have hnP : n = P := by omega
              have HNP := hide hnP
              clear hnP
              obtain ⟨wr, hwr⟩ : ∃ r, r = wc := ⟨_, rfl⟩
              subst hwr
              obtain ⟨b9, hb9⟩ : ∃ b : Bool, (b = true ↔ (xs.map (·.1))[n]? = some (xp, xk, xs')) := ex_bool _
              go_upto_region 9 with fail
              go_cut [57] (fun v57 wc => v57 = .bool b9 ∧ Hid (Below wr.heap.size wr wc))
              case first =>
                as_aux_lemma =>
                  by_cases hnl : n < xs.length
                  · obtain ⟨y, hy⟩ : ∃ r, xs[n]? = some r := ⟨_, List.getElem?_eq_getElem hnl⟩
                    have hyL : (xs.map (·.1))[n]? = some y.1 := by rw [List.getElem?_map, hy]; rfl
                    obtain ⟨ro, hspot, -, -, -⟩ := (HQ.out.row.below HZ.out).rpo
                    obtain ⟨g, og, rfl, c0, c1, c2⟩ := ro.at hspot hy
                    obtain ⟨b0, b1, b2, -, -, -⟩ := blk3 ((HZ.out.block _ hpb).trans HBX.out)
                    have hnz : (n : Int) < (xs.length : Int) := by omega
                    refine wp_region_held_drew (S := fun w' => (w'.cell? ⟨g, og + n * 3, none⟩ = some (.slice y.2.1 y.1.1.length y.2.2) ∧ w'.cell? ⟨g, og + n * 3 + 1, none⟩ = some (.int .i64 y.1.2.1) ∧ w'.cell? ⟨g, og + n * 3 + 2, none⟩ = some (.string y.1.2.2)) ∧ (w'.cell? ⟨pb, 0, none⟩ = some (.slice a2 xp.length c2') ∧ w'.cell? ⟨pb, 1, none⟩ = some (.int .i64 xk) ∧ w'.cell? ⟨pb, 2, none⟩ = some (.string xs'))) (by kernel_rfl) ⟨⟨c0, c1, c2⟩, b0, b1, b2⟩ (fun hHeld => ?_)
                    have hbd : Below wr.heap.size wr wr.drew := (Below.refl _ _).drew
                    obtain ⟨Wd, hWd⟩ : ∃ r, r = wr.drew := ⟨_, rfl⟩
                    rw [← hWd] at hHeld hbd ⊢
                    clear hWd c0 c1 c2 b0 b1 b2 ro hspot
                    have hbq : Below wq.heap.size wq Wd := HZ.out.trans (hbd.mono HZ.out.size)
                    have hsy := HN.out.2.1 y (List.mem_of_getElem? hy)
                    have k40 : Calls Tryz.prog 40 #[plV y, .agg #[.slice a2 xp.length c2', .int .i64 xk, .string xs']] Wd fun e w' => e = .returned (.int .i64 (cfL y.1 (xp, xk, xs'))) ∧ Below Wd.heap.size Wd w' := refCmpPlace_any (c := y.2.2) (d := c2') y.1.2.1 xk y.1.2.2 xs' ((HQ.out.path y (List.mem_of_getElem? hy)).below hbq).rsq ((HO2.out.below hbq).rsq) (by have := HQ.out.plen y (List.mem_of_getElem? hy); omega) hsy.1 hsy.2
                    clear hsy hbq
                    refine take_op (i := 0) (d := 45) (OP := Op.move (Operand.tmp 6)) (T := 3) (v := ?vog40) rfl rfl rfl rfl (by kernel_rfl) (by kernel_rfl) (by kernel_rfl) (fun _ _ _ h => h) (by rfl) ?hog40 hHeld ?rog40
                    case hog40 => (intro w' hSw; (try dsimp only at hSw); go_simp <;> with_reducible rfl)
                    try simp only [Act.put, List.setIfInBounds_toArray, List.set_cons_zero, List.set_cons_succ]
                    refine take_op (i := 1) (d := 46) (OP := Op.move (Operand.tmp 3)) (T := 70) (v := ?vog41) rfl rfl rfl rfl (by kernel_rfl) (by kernel_rfl) (by kernel_rfl) (fun _ _ _ h => h) (by rfl) ?hog41 hHeld ?rog41
                    case hog41 => (intro w' hSw; (try dsimp only at hSw); go_simp <;> with_reducible rfl)
                    try simp only [Act.put, List.setIfInBounds_toArray, List.set_cons_zero, List.set_cons_succ]
                    refine take_op (i := 2) (d := 47) (OP := Op.call { callee := Callee.builtin Builtin.len, args := #[Operand.tmp 46], argTypes := #[70] }) (T := 3) (v := ?vog42) rfl rfl rfl rfl (by kernel_rfl) (by kernel_rfl) (by kernel_rfl) (fun _ _ _ h => h) (by rfl) ?hog42 hHeld ?rog42
                    case hog42 => (intro w' hSw; (try dsimp only at hSw); go_simp <;> with_reducible rfl)
                    try simp only [Act.put, List.setIfInBounds_toArray, List.set_cons_zero, List.set_cons_succ]
                    refine take_op (i := 3) (d := 48) (OP := Op.binOp BinOp.lss 3 (Operand.tmp 45) (Operand.tmp 47) 3) (T := 4) (v := (.bool true)) rfl rfl rfl rfl (by kernel_rfl) (by kernel_rfl) (by kernel_rfl) (fun _ _ _ h => h) (by rfl) ?hog43 hHeld ?rog43
                    case hog43 => (intro w' hSw; exact exec_lssT rfl rfl hnz)
                    try simp only [Act.put, List.setIfInBounds_toArray, List.set_cons_zero, List.set_cons_succ]
                    refine take_op (i := 4) (d := 49) (OP := Op.move (Operand.tmp 48)) (T := 4) (v := ?vog44) rfl rfl rfl rfl (by kernel_rfl) (by kernel_rfl) (by kernel_rfl) (fun _ _ _ h => h) (by rfl) ?hog44 hHeld ?rog44
                    case hog44 => (intro w' hSw; (try dsimp only at hSw); go_simp <;> with_reducible rfl)
                    try simp only [Act.put, List.setIfInBounds_toArray, List.set_cons_zero, List.set_cons_succ]
                    refine take_op (i := 5) (d := 50) (OP := Op.move (Operand.tmp 3)) (T := 70) (v := ?vog45) rfl rfl rfl rfl (by kernel_rfl) (by kernel_rfl) (by kernel_rfl) (fun _ _ _ h => h) (by rfl) ?hog45 hHeld ?rog45
                    case hog45 => (intro w' hSw; (try dsimp only at hSw); go_simp <;> with_reducible rfl)
                    try simp only [Act.put, List.setIfInBounds_toArray, List.set_cons_zero, List.set_cons_succ]
                    refine take_op (i := 6) (d := 51) (OP := Op.move (Operand.tmp 6)) (T := 3) (v := ?vog46) rfl rfl rfl rfl (by kernel_rfl) (by kernel_rfl) (by kernel_rfl) (fun _ _ _ h => h) (by rfl) ?hog46 hHeld ?rog46
                    case hog46 => (intro w' hSw; (try dsimp only at hSw); go_simp <;> with_reducible rfl)
                    try simp only [Act.put, List.setIfInBounds_toArray, List.set_cons_zero, List.set_cons_succ]
                    refine take_op (i := 7) (d := 52) (OP := Op.indexAddr 70 (Operand.tmp 50) (Operand.tmp 51)) (T := 0) (v := (.pointer (some ⟨g, og + n * 3, none⟩))) rfl rfl rfl rfl (by kernel_rfl) (by kernel_rfl) (by kernel_rfl) (fun _ _ _ h => h) (by rfl) ?hog47 hHeld ?rog47
                    case hog47 => (intro w' hSw; exact exec_ixP rfl rfl hnz)
                    try simp only [Act.put, List.setIfInBounds_toArray, List.set_cons_zero, List.set_cons_succ]
                    refine take_op (i := 8) (d := 53) (OP := Op.load 75 (Operand.tmp 52)) (T := 75) (v := ?vog48) rfl rfl rfl rfl (by kernel_rfl) (by kernel_rfl) (by kernel_rfl) (fun _ _ _ h => h) (by rfl) ?hog48 hHeld ?rog48
                    case hog48 => (intro w' hSw; (try dsimp only at hSw); go_simp <;> with_reducible rfl)
                    try simp only [Act.put, List.setIfInBounds_toArray, List.set_cons_zero, List.set_cons_succ]
                    refine take_op (i := 9) (d := 54) (OP := Op.load 75 (Operand.tmp 5)) (T := 75) (v := ?vog49) rfl rfl rfl rfl (by kernel_rfl) (by kernel_rfl) (by kernel_rfl) (fun _ _ _ h => h) (by rfl) ?hog49 hHeld ?rog49
                    case hog49 => (intro w' hSw; (try dsimp only at hSw); go_simp <;> with_reducible rfl)
                    try simp only [Act.put, List.setIfInBounds_toArray, List.set_cons_zero, List.set_cons_succ]
                    rcases cfL_range y.1 (xp, xk, xs') with hC | hC | hC
                    · exact absurd hC (posP_at (xp, xk, xs') (xs.map (·.1)) y.1 (by rw [← HPP.out, ← HNP.out]; exact hyL))
                    · rw [hC] at k40
                      refine call_op (i := 10) (d := 55) (OP := Op.call { callee := Callee.value (Operand.func 40), args := #[Operand.tmp 53, Operand.tmp 54], argTypes := #[75, 75] }) (T := 3) (f := 40) (args := #[plV y, .agg #[.slice a2 xp.length c2', .int .i64 xk, .string xs']]) rfl rfl rfl rfl (by kernel_rfl) (by rfl) (by go_simp) ?_
                      refine k40.mono ?_
                      rintro e y1 ⟨rfl, by1⟩
                      have hb1 := hbd.trans (by1.mono hbd.size)
                      have hh1 := And.intro (And.intro (Ki.cell_stays hHeld.1.1 by1) (And.intro (Ki.cell_stays hHeld.1.2.1 by1) (Ki.cell_stays hHeld.1.2.2 by1))) (And.intro (Ki.cell_stays hHeld.2.1 by1) (And.intro (Ki.cell_stays hHeld.2.2.1 by1) (Ki.cell_stays hHeld.2.2.2 by1)))
                      refine ⟨_, rfl, hh1, ?_⟩
                      replace hHeld := hh1
                      try simp only [Act.put, List.setIfInBounds_toArray, List.set_cons_zero, List.set_cons_succ]
                      refine take_op (i := 11) (d := 56) (OP := Op.binOp BinOp.eql 3 (Operand.tmp 55) (Operand.const (Value.int IntKind.i64 0)) 3) (T := 4) (v := (.bool true)) rfl rfl rfl rfl (by kernel_rfl) (by kernel_rfl) (by kernel_rfl) (fun _ _ _ h => h) (by rfl) ?hog50 hHeld ?rog50
                      case hog50 => (intro w' hSw; (try dsimp only at hSw); go_simp <;> with_reducible rfl)
                      try simp only [Act.put, List.setIfInBounds_toArray, List.set_cons_zero, List.set_cons_succ]
                      refine take_op (i := 12) (d := 57) (OP := Op.pick (Operand.tmp 49) (Operand.tmp 56) (Operand.const (Value.bool false))) (T := 4) (v := (.bool true)) rfl rfl rfl rfl (by kernel_rfl) (by kernel_rfl) (by kernel_rfl) (fun _ _ _ h => h) (by rfl) ?hog51 hHeld ?rog51
                      case hog51 => (intro w' hSw; (try dsimp only at hSw); go_simp <;> with_reducible rfl)
                      try simp only [Act.put, List.setIfInBounds_toArray, List.set_cons_zero, List.set_cons_succ]
                      refine wpAnyH_done (by kernel_rfl) ?_ _
                      have HJ := hide hb1
                      clear hb1 hh1 hHeld by1 k40 hbd
                      (try go_wp2)
                      go_meet
                      exact ⟨by rw [hb9.2 (by rw [hyL, cfL_eq.1 hC])], HJ⟩
                    · rw [hC] at k40
                      refine call_op (i := 10) (d := 55) (OP := Op.call { callee := Callee.value (Operand.func 40), args := #[Operand.tmp 53, Operand.tmp 54], argTypes := #[75, 75] }) (T := 3) (f := 40) (args := #[plV y, .agg #[.slice a2 xp.length c2', .int .i64 xk, .string xs']]) rfl rfl rfl rfl (by kernel_rfl) (by rfl) (by go_simp) ?_
                      refine k40.mono ?_
                      rintro e y1 ⟨rfl, by1⟩
                      have hb1 := hbd.trans (by1.mono hbd.size)
                      have hh1 := And.intro (And.intro (Ki.cell_stays hHeld.1.1 by1) (And.intro (Ki.cell_stays hHeld.1.2.1 by1) (Ki.cell_stays hHeld.1.2.2 by1))) (And.intro (Ki.cell_stays hHeld.2.1 by1) (And.intro (Ki.cell_stays hHeld.2.2.1 by1) (Ki.cell_stays hHeld.2.2.2 by1)))
                      refine ⟨_, rfl, hh1, ?_⟩
                      replace hHeld := hh1
                      try simp only [Act.put, List.setIfInBounds_toArray, List.set_cons_zero, List.set_cons_succ]
                      refine take_op (i := 11) (d := 56) (OP := Op.binOp BinOp.eql 3 (Operand.tmp 55) (Operand.const (Value.int IntKind.i64 0)) 3) (T := 4) (v := (.bool false)) rfl rfl rfl rfl (by kernel_rfl) (by kernel_rfl) (by kernel_rfl) (fun _ _ _ h => h) (by rfl) ?hog52 hHeld ?rog52
                      case hog52 => (intro w' hSw; (try dsimp only at hSw); go_simp <;> with_reducible rfl)
                      try simp only [Act.put, List.setIfInBounds_toArray, List.set_cons_zero, List.set_cons_succ]
                      refine take_op (i := 12) (d := 57) (OP := Op.pick (Operand.tmp 49) (Operand.tmp 56) (Operand.const (Value.bool false))) (T := 4) (v := (.bool false)) rfl rfl rfl rfl (by kernel_rfl) (by kernel_rfl) (by kernel_rfl) (fun _ _ _ h => h) (by rfl) ?hog53 hHeld ?rog53
                      case hog53 => (intro w' hSw; (try dsimp only at hSw); go_simp <;> with_reducible rfl)
                      try simp only [Act.put, List.setIfInBounds_toArray, List.set_cons_zero, List.set_cons_succ]
                      refine wpAnyH_done (by kernel_rfl) ?_ _
                      have HJ := hide hb1
                      clear hb1 hh1 hHeld by1 k40 hbd
                      (try go_wp2)
                      go_meet
                      exact ⟨(by cases hb : b9 with | false => rfl | true => (have e := hb9.1 hb; rw [hyL] at e; injection e with e; have := cfL_eq.2 e; omega)), HJ⟩
                  · have hnz : ¬ (n : Int) < (xs.length : Int) := by omega
                    refine wp_region_held_drew (S := fun _ => True) (by kernel_rfl) trivial (fun hHeld => ?_)
                    have hbd : Below wr.heap.size wr wr.drew := (Below.refl _ _).drew
                    obtain ⟨Wd, hWd⟩ : ∃ r, r = wr.drew := ⟨_, rfl⟩
                    rw [← hWd] at hbd ⊢
                    clear hWd hHeld
                    refine take_op (i := 0) (d := 45) (OP := Op.move (Operand.tmp 6)) (T := 3) (v := ?vog54) rfl rfl rfl rfl (by kernel_rfl) (by kernel_rfl) (by kernel_rfl) (fun _ _ _ h => h) (by rfl) ?hog54 trivial ?rog54
                    case hog54 => (intro w' hSw; (try dsimp only at hSw); go_simp <;> with_reducible rfl)
                    try simp only [Act.put, List.setIfInBounds_toArray, List.set_cons_zero, List.set_cons_succ]
                    refine take_op (i := 1) (d := 46) (OP := Op.move (Operand.tmp 3)) (T := 70) (v := ?vog55) rfl rfl rfl rfl (by kernel_rfl) (by kernel_rfl) (by kernel_rfl) (fun _ _ _ h => h) (by rfl) ?hog55 trivial ?rog55
                    case hog55 => (intro w' hSw; (try dsimp only at hSw); go_simp <;> with_reducible rfl)
                    try simp only [Act.put, List.setIfInBounds_toArray, List.set_cons_zero, List.set_cons_succ]
                    refine take_op (i := 2) (d := 47) (OP := Op.call { callee := Callee.builtin Builtin.len, args := #[Operand.tmp 46], argTypes := #[70] }) (T := 3) (v := ?vog56) rfl rfl rfl rfl (by kernel_rfl) (by kernel_rfl) (by kernel_rfl) (fun _ _ _ h => h) (by rfl) ?hog56 trivial ?rog56
                    case hog56 => (intro w' hSw; (try dsimp only at hSw); go_simp <;> with_reducible rfl)
                    try simp only [Act.put, List.setIfInBounds_toArray, List.set_cons_zero, List.set_cons_succ]
                    refine take_op (i := 3) (d := 48) (OP := Op.binOp BinOp.lss 3 (Operand.tmp 45) (Operand.tmp 47) 3) (T := 4) (v := (.bool false)) rfl rfl rfl rfl (by kernel_rfl) (by kernel_rfl) (by kernel_rfl) (fun _ _ _ h => h) (by rfl) ?hog57 trivial ?rog57
                    case hog57 => (intro w' hSw; exact exec_lssF rfl rfl hnz)
                    try simp only [Act.put, List.setIfInBounds_toArray, List.set_cons_zero, List.set_cons_succ]
                    refine take_op (i := 4) (d := 49) (OP := Op.move (Operand.tmp 48)) (T := 4) (v := ?vog58) rfl rfl rfl rfl (by kernel_rfl) (by kernel_rfl) (by kernel_rfl) (fun _ _ _ h => h) (by rfl) ?hog58 trivial ?rog58
                    case hog58 => (intro w' hSw; (try dsimp only at hSw); go_simp <;> with_reducible rfl)
                    try simp only [Act.put, List.setIfInBounds_toArray, List.set_cons_zero, List.set_cons_succ]
                    refine pass_op (i := 5) (d := 50) rfl rfl (by kernel_rfl) (by kernel_rfl) (by kernel_rfl) (fun _ _ _ h => h) (by rfl) trivial ?_
                    try simp only [Act.put, List.setIfInBounds_toArray, List.set_cons_zero, List.set_cons_succ]
                    refine pass_op (i := 6) (d := 51) rfl rfl (by kernel_rfl) (by kernel_rfl) (by kernel_rfl) (fun _ _ _ h => h) (by rfl) trivial ?_
                    try simp only [Act.put, List.setIfInBounds_toArray, List.set_cons_zero, List.set_cons_succ]
                    refine pass_op (i := 7) (d := 52) rfl rfl (by kernel_rfl) (by kernel_rfl) (by kernel_rfl) (fun _ _ _ h => h) (by rfl) trivial ?_
                    try simp only [Act.put, List.setIfInBounds_toArray, List.set_cons_zero, List.set_cons_succ]
                    refine pass_op (i := 8) (d := 53) rfl rfl (by kernel_rfl) (by kernel_rfl) (by kernel_rfl) (fun _ _ _ h => h) (by rfl) trivial ?_
                    try simp only [Act.put, List.setIfInBounds_toArray, List.set_cons_zero, List.set_cons_succ]
                    refine pass_op (i := 9) (d := 54) rfl rfl (by kernel_rfl) (by kernel_rfl) (by kernel_rfl) (fun _ _ _ h => h) (by rfl) trivial ?_
                    try simp only [Act.put, List.setIfInBounds_toArray, List.set_cons_zero, List.set_cons_succ]
                    refine pass_op (i := 10) (d := 55) rfl rfl (by kernel_rfl) (by kernel_rfl) (by kernel_rfl) (fun _ _ _ h => h) (by rfl) trivial ?_
                    try simp only [Act.put, List.setIfInBounds_toArray, List.set_cons_zero, List.set_cons_succ]
                    refine pass_op (i := 11) (d := 56) rfl rfl (by kernel_rfl) (by kernel_rfl) (by kernel_rfl) (fun _ _ _ h => h) (by rfl) trivial ?_
                    try simp only [Act.put, List.setIfInBounds_toArray, List.set_cons_zero, List.set_cons_succ]
                    refine take_op (i := 12) (d := 57) (OP := Op.pick (Operand.tmp 49) (Operand.tmp 56) (Operand.const (Value.bool false))) (T := 4) (v := (.bool false)) rfl rfl rfl rfl (by kernel_rfl) (by kernel_rfl) (by kernel_rfl) (fun _ _ _ h => h) (by rfl) ?hog59 trivial ?rog59
                    case hog59 => (intro w' hSw; (try dsimp only at hSw); go_simp <;> with_reducible rfl)
                    try simp only [Act.put, List.setIfInBounds_toArray, List.set_cons_zero, List.set_cons_succ]
                    refine wpAnyH_done (by kernel_rfl) ?_ _
                    have HJ := hide hbd
                    clear hbd
                    (try go_wp2)
                    go_meet
                    exact ⟨(by cases hb : b9 with | false => rfl | true => (have e := hb9.1 hb; rw [List.getElem?_eq_none (by rw [List.length_map]; omega)] at e; cases e)), HJ⟩
              case rest =>
                obtain ⟨rfl, HJ⟩ := hcut
                have hz : Below wq.heap.size wq wc := HZ.out.trans (HJ.out.mono HZ.out.size)
                have HZ2 := hide hz
                clear hz HJ HZ
                obtain ⟨wz, hwz⟩ : ∃ r, r = wc := ⟨_, rfl⟩
                subst hwz
                cases b9 with
                | true =>
                  have HT : Hid (xs.map (·.1) = insAllP [] ((ps.map plOf).take (j + 1))) := hide (by
                    rw [HN.out.1]
                    refine (insP_there _ _ ?_).symm
                    rw [← HPP.out, ← HNP.out]
                    exact hb9.1 rfl)
                  go_wp2
                  go_roundw
                  case rel => exact ⟨j + 1, xs, a3, c3, by omega, by go_num, rfl, HT, hide (HQ.out.below HZ2.out), hide (HBq.out.trans (HZ2.out.mono HBq.out.size))⟩
                  case measure => simp [intOf]; omega
                | false =>
                  have hne : (xs.map (·.1))[posP (xp, xk, xs') (xs.map (·.1))]? ≠ some (xp, xk, xs') := fun e => by
                    rw [← HPP.out, ← HNP.out] at e
                    exact absurd (hb9.2 e) (by simp)
                  have hins := insP_new (xp, xk, xs') (xs.map (·.1)) hne
                  rw [← HPP.out, ← HNP.out] at hins
                  have hT : (xs.take n ++ [((xp, xk, xs'), a2, c2')] ++ xs.drop n).map (·.1) = insAllP [] ((ps.map plOf).take (j + 1)) := by
                    rw [HN.out.1, hins]
                    simp [List.map_take, List.map_drop]
                  have HT := hide hT
                  clear hT hins hne hb9
                  go_upto_region 10 with fail
                  obtain ⟨hro, hspot, hzc, -, hc3⟩ := (HQ.out.row.below HZ2.out).rpo
                  have hnl : n ≤ xs.length := by omega
                  have hsz : w.heap.size ≤ wz.heap.size := Nat.le_trans HBq.out.size HZ2.out.size
                  obtain ⟨A1, r1, q1, m1⟩ := sl_hi hro hnl hc3 hspot
                  obtain ⟨A2, r2, q2, m2⟩ := sl_lo hro hnl hc3 hspot
                  obtain ⟨b0, b1, b2, -, -, -⟩ := blk3 ((HZ2.out.block _ hpb).trans HBX.out)
                  have hbz : pb < wz.heap.size := Nat.lt_of_lt_of_le hpb HZ2.out.size
                  have hl1 : (xs.take n).length = n := by rw [List.length_take]; omega
                  have hl2 : (xs.drop n).length = xs.length - n := by rw [List.length_drop]
                  have hap1 : ∀ W, Below wz.heap.size wz W → ∃ v9 w9, (Builtin.append_ #[70, 70] 70 #[.slice none 0 0, .slice A1 n c3]).run Tryz.prog W = .ok v9 w9 ∧ Opl w9 wz.heap.size v9 (xs.take n) ∧ Below W.heap.size W w9 := fun W hW => by
                    obtain ⟨a', c', w', h1, h2, h3⟩ := app_pl (Opl.nil W W.heap.size) (fun e => hzc (m1 e)) (q1.below hW) (by simp; omega) (Nat.le_refl _)
                    rw [hl1] at h1
                    exact ⟨_, w', h1, row_lift6 h2 hW.size, h3⟩
                  have hap2 : ∀ (W : World) (v : Value) (R : Nat), Below wz.heap.size wz W → Opl W wz.heap.size v (xs.take n) → RpO W (some ⟨R, 0, none⟩) [((xp, xk, xs'), a2, c2')] → ∃ v9 w9, (Builtin.append_ #[70, 70] 70 #[v, .slice (some ⟨R, 0, none⟩) 1 1]).run Tryz.prog W = .ok v9 w9 ∧ Opl w9 wz.heap.size v9 (xs.take n ++ [((xp, xk, xs'), a2, c2')]) ∧ Below wz.heap.size W w9 := fun W v R hW ho hr => by
                    obtain ⟨a', c', w', h1, h2, h3⟩ := app_pl (c := 1) ho (by simp) hr (by simp; omega) hW.size
                    exact ⟨_, w', h1, h2, h3⟩
                  have hap3 : ∀ (W : World) (v : Value), Below wz.heap.size wz W → Opl W wz.heap.size v (xs.take n ++ [((xp, xk, xs'), a2, c2')]) → ∃ v9 w9, (Builtin.append_ #[70, 70] 70 #[v, .slice A2 (xs.length - n) (c3 - n)]).run Tryz.prog W = .ok v9 w9 ∧ Opl w9 wz.heap.size v9 (xs.take n ++ [((xp, xk, xs'), a2, c2')] ++ xs.drop n) ∧ Below wz.heap.size W w9 := fun W v hW ho => by
                    obtain ⟨a', c', w', h1, h2, h3⟩ := app_pl (c := c3 - n) ho (fun e => by rw [hzc (m2 e)]; simp) (q2.below hW) (by simp; omega) hW.size
                    rw [hl2] at h1
                    exact ⟨_, w', h1, h2, h3⟩
                  clear hro q1 q2 m1 m2 hl1 hl2 hspot hzc
                  refine wp_region_held_drew (S := fun w' => Below wz.heap.size wz w') (by kernel_rfl) (by exact (Below.refl _ wz).drew) (fun hHeld => ?_)
                  obtain ⟨W1, hW1⟩ : ∃ r, r = wz.drew := ⟨_, rfl⟩
                  rw [← hW1] at hHeld ⊢
                  clear hW1
                  refine take_op (i := 0) (d := 58) (OP := Op.move (Operand.tmp 3)) (T := 70) (v := ?vog60) rfl rfl rfl rfl (by kernel_rfl) (by kernel_rfl) (by kernel_rfl) (fun _ _ _ h => h) (by rfl) ?hog60 hHeld ?rog60
                  case hog60 => (intro w' hSw; (try dsimp only at hSw); go_simp <;> with_reducible rfl)
                  try simp only [Act.put, List.setIfInBounds_toArray, List.set_cons_zero, List.set_cons_succ]
                  refine take_op (i := 1) (d := 59) (OP := Op.move (Operand.tmp 6)) (T := 3) (v := ?vog61) rfl rfl rfl rfl (by kernel_rfl) (by kernel_rfl) (by kernel_rfl) (fun _ _ _ h => h) (by rfl) ?hog61 hHeld ?rog61
                  case hog61 => (intro w' hSw; (try dsimp only at hSw); go_simp <;> with_reducible rfl)
                  try simp only [Act.put, List.setIfInBounds_toArray, List.set_cons_zero, List.set_cons_succ]
                  refine take_op (i := 2) (d := 60) (OP := Op.slice 70 (Operand.tmp 58) none (some (Operand.tmp 59)) none) (T := 70) (v := (.slice A1 n c3)) rfl rfl rfl rfl (by kernel_rfl) (by kernel_rfl) (by kernel_rfl) (fun _ _ _ h => h) (by rfl) ?hog62 hHeld ?rog62
                  case hog62 => exact (fun w' _ => exec_slhP rfl rfl (r1 w'))
                  try simp only [Act.put, List.setIfInBounds_toArray, List.set_cons_zero, List.set_cons_succ]
                  refine take_op (i := 4) (d := 62) (OP := Op.load 75 (Operand.tmp 5)) (T := 75) (v := (.agg #[.slice a2 xp.length c2', .int .i64 xk, .string xs'])) rfl rfl rfl rfl (by kernel_rfl) (by kernel_rfl) (by kernel_rfl) (fun _ _ _ h => h) (by rfl) ?hog63 hHeld ?rog63
                  case hog63 => exact (fun w' hSw => exec_ldP rfl ((hSw.cell hbz).trans b0) ((hSw.cell hbz).trans b1) ((hSw.cell hbz).trans b2))
                  try simp only [Act.put, List.setIfInBounds_toArray, List.set_cons_zero, List.set_cons_succ]
                  refine take_op (i := 7) (d := 65) (OP := Op.move (Operand.tmp 3)) (T := 70) (v := ?vog64) rfl rfl rfl rfl (by kernel_rfl) (by kernel_rfl) (by kernel_rfl) (fun _ _ _ h => h) (by rfl) ?hog64 hHeld ?rog64
                  case hog64 => (intro w' hSw; (try dsimp only at hSw); go_simp <;> with_reducible rfl)
                  try simp only [Act.put, List.setIfInBounds_toArray, List.set_cons_zero, List.set_cons_succ]
                  refine take_op (i := 8) (d := 66) (OP := Op.move (Operand.tmp 6)) (T := 3) (v := ?vog65) rfl rfl rfl rfl (by kernel_rfl) (by kernel_rfl) (by kernel_rfl) (fun _ _ _ h => h) (by rfl) ?hog65 hHeld ?rog65
                  case hog65 => (intro w' hSw; (try dsimp only at hSw); go_simp <;> with_reducible rfl)
                  try simp only [Act.put, List.setIfInBounds_toArray, List.set_cons_zero, List.set_cons_succ]
                  refine take_op (i := 9) (d := 67) (OP := Op.slice 70 (Operand.tmp 65) (some (Operand.tmp 66)) none none) (T := 70) (v := (.slice A2 (xs.length - n) (c3 - n))) rfl rfl rfl rfl (by kernel_rfl) (by kernel_rfl) (by kernel_rfl) (fun _ _ _ h => h) (by rfl) ?hog66 hHeld ?rog66
                  case hog66 => exact (fun w' _ => exec_slloP rfl rfl (r2 w'))
                  try simp only [Act.put, List.setIfInBounds_toArray, List.set_cons_zero, List.set_cons_succ]
                  obtain ⟨v9, w9, run9, hO9, b9⟩ := hap1 W1 hHeld
                  have hS9 : Below wz.heap.size wz w9 := hHeld.trans (b9.mono hHeld.size)
                  have hSl : Below wz.heap.size wz (W1.alloc (.cells #[.slice a2 xp.length c2', .int .i64 xk, .string xs'] 75)) := hHeld.alloc hHeld.size _
                  refine turns_op (i := 3) (di := 61) (OPi := Op.call { callee := Callee.builtin Builtin.append, args := #[Operand.const (Value.slice none 0 0), Operand.tmp 60], argTypes := #[70, 70] }) (Ti := 70) (j := 5) (dj := 63) (OPj := Op.buildSlice 70 1 #[(0, Operand.tmp 62)]) (Tj := 70) (v := v9) (w1 := w9) (u := .slice (some ⟨W1.heap.size, 0, none⟩) 1 1) (w2 := W1.alloc (.cells #[.slice a2 xp.length c2', .int .i64 xk, .string xs'] 75)) rfl rfl rfl rfl rfl rfl rfl rfl (by kernel_rfl) (by rfl) (by rfl) (exec_append rfl rfl run9) (exec_one75 rfl) hS9 hSl ?_ ?_
                  · try simp only [Act.put, List.setIfInBounds_toArray, List.set_cons_zero, List.set_cons_succ]
                    replace hHeld := hS9
                    have hS8 : Below wz.heap.size wz (w9.alloc (.cells #[.slice a2 xp.length c2', .int .i64 xk, .string xs'] 75)) := hHeld.alloc hHeld.size _
                    refine turn_op (i := 5) (d := 63) (OP := Op.buildSlice 70 1 #[(0, Operand.tmp 62)]) (T := 70) (v := (.slice (some ⟨w9.heap.size, 0, none⟩) 1 1)) (w' := (w9.alloc (.cells #[.slice a2 xp.length c2', .int .i64 xk, .string xs'] 75))) rfl rfl rfl rfl (by kernel_rfl) (by rfl) (exec_one75 rfl) hS8 ?_
                    try simp only [Act.put, List.setIfInBounds_toArray, List.set_cons_zero, List.set_cons_succ]
                    replace hHeld := hS8
                    obtain ⟨v10, w10, run10, hO10, b10⟩ := hap2 (w9.alloc (.cells #[.slice a2 xp.length c2', .int .i64 xk, .string xs'] 75)) _ w9.heap.size hHeld (hO9.below ((Below.refl _ w9).alloc (Nat.le_refl _) (.cells #[.slice a2 xp.length c2', .int .i64 xk, .string xs'] 75))) (one_rpo w9 ((xp, xk, xs'), a2, c2'))
                    have hS10 := hHeld.trans b10
                    refine turn_op (i := 6) (d := 64) (OP := Op.call { callee := Callee.builtin Builtin.append, args := #[Operand.tmp 61, Operand.tmp 63], argTypes := #[70, 70] }) (T := 70) (v := v10) (w' := w10) rfl rfl rfl rfl (by kernel_rfl) (by rfl) (exec_append rfl rfl run10) hS10 ?_
                    try simp only [Act.put, List.setIfInBounds_toArray, List.set_cons_zero, List.set_cons_succ]
                    obtain ⟨v11, w11, run11, hO11, b11⟩ := hap3 w10 _ hS10 hO10
                    have hS11 := hS10.trans b11
                    refine turn_op (i := 10) (d := 68) (OP := Op.call { callee := Callee.builtin Builtin.append, args := #[Operand.tmp 64, Operand.tmp 67], argTypes := #[70, 70] }) (T := 70) (v := v11) (w' := w11) rfl rfl rfl rfl (by kernel_rfl) (by rfl) (exec_append rfl rfl run11) hS11 ?_
                    try simp only [Act.put, List.setIfInBounds_toArray, List.set_cons_zero, List.set_cons_succ]
                    refine take_op (i := 11) (d := 3) (OP := Op.assign (Operand.tmp 68)) (T := 70) (v := ?vog67) rfl rfl rfl rfl (by kernel_rfl) (by kernel_rfl) (by kernel_rfl) (fun _ _ _ h => h) (by rfl) ?hog67 hS11 ?rog67
                    case hog67 => (intro w' hSw; (try dsimp only at hSw); go_simp <;> with_reducible rfl)
                    try simp only [Act.put, List.setIfInBounds_toArray, List.set_cons_zero, List.set_cons_succ]
                    refine wpAnyH_done (by kernel_rfl) ?_ _
                    have hzq := HZ2.out.trans (hS11.mono HZ2.out.size)
                    have hpq : Pq w11 w.heap.size v11 (xs.take n ++ [((xp, xk, xs'), a2, c2')] ++ xs.drop n) := by
                      have hall : ∀ y ∈ xs.take n ++ [((xp, xk, xs'), a2, c2')] ++ xs.drop n, y ∈ xs ∨ y = ((xp, xk, xs'), a2, c2') := fun y hy => by
                        rcases List.mem_append.1 hy with hy | hy
                        · rcases List.mem_append.1 hy with hy | hy
                          · exact .inl (List.mem_of_mem_take hy)
                          · exact .inr (by simpa using hy)
                        · exact .inl (List.mem_of_mem_drop hy)
                      refine ⟨row_lift6 hO11 hsz, fun y hy => ?_, fun y hy => ?_⟩
                      · rcases hall y hy with h | h
                        · exact (HQ.out.path y h).below hzq
                        · rw [h]; exact HO2.out.below hzq
                      · rcases hall y hy with h | h
                        · exact HQ.out.plen y h
                        · rw [h]; exact HN.out.2.2.2
                    obtain ⟨a11, c11, hv11⟩ := hpq.form
                    subst hv11
                    have H11 := And.intro (hide hpq) (hide (HBq.out.trans (hzq.mono HBq.out.size)))
                    clear hap1 hap2 hap3 r1 r2 hO9 b9 run9 hO10 run10 b10 hO11 run11 b11 hzq hpq hS10 hS11
                    go_wp2
                    go_roundw
                    case rel => exact ⟨j + 1, _, a11, c11, by omega, by go_num, rfl, HT, H11.1, H11.2⟩
                    case measure => simp [intOf]; omega
                  · try simp only [Act.put, List.setIfInBounds_toArray, List.set_cons_zero, List.set_cons_succ]
                    clear run9 hO9 b9 hS9 v9 w9
                    replace hHeld := hSl
                    obtain ⟨v9, w9, run9, hO9, b9⟩ := hap1 _ hHeld
                    have hS9 : Below wz.heap.size wz w9 := hHeld.trans (b9.mono hHeld.size)
                    refine turn_op (i := 3) (d := 61) (OP := Op.call { callee := Callee.builtin Builtin.append, args := #[Operand.const (Value.slice none 0 0), Operand.tmp 60], argTypes := #[70, 70] }) (T := 70) (v := v9) (w' := w9) rfl rfl rfl rfl (by kernel_rfl) (by rfl) (exec_append rfl rfl run9) hS9 ?_
                    try simp only [Act.put, List.setIfInBounds_toArray, List.set_cons_zero, List.set_cons_succ]
                    replace hHeld := hS9
                    obtain ⟨v10, w10, run10, hO10, b10⟩ := hap2 w9 _ W1.heap.size hHeld hO9 ((one_rpo W1 ((xp, xk, xs'), a2, c2')).below b9)
                    have hS10 := hHeld.trans b10
                    refine turn_op (i := 6) (d := 64) (OP := Op.call { callee := Callee.builtin Builtin.append, args := #[Operand.tmp 61, Operand.tmp 63], argTypes := #[70, 70] }) (T := 70) (v := v10) (w' := w10) rfl rfl rfl rfl (by kernel_rfl) (by rfl) (exec_append rfl rfl run10) hS10 ?_
                    try simp only [Act.put, List.setIfInBounds_toArray, List.set_cons_zero, List.set_cons_succ]
                    obtain ⟨v11, w11, run11, hO11, b11⟩ := hap3 w10 _ hS10 hO10
                    have hS11 := hS10.trans b11
                    refine turn_op (i := 10) (d := 68) (OP := Op.call { callee := Callee.builtin Builtin.append, args := #[Operand.tmp 64, Operand.tmp 67], argTypes := #[70, 70] }) (T := 70) (v := v11) (w' := w11) rfl rfl rfl rfl (by kernel_rfl) (by rfl) (exec_append rfl rfl run11) hS11 ?_
                    try simp only [Act.put, List.setIfInBounds_toArray, List.set_cons_zero, List.set_cons_succ]
                    refine take_op (i := 11) (d := 3) (OP := Op.assign (Operand.tmp 68)) (T := 70) (v := ?vog68) rfl rfl rfl rfl (by kernel_rfl) (by kernel_rfl) (by kernel_rfl) (fun _ _ _ h => h) (by rfl) ?hog68 hS11 ?rog68
                    case hog68 => (intro w' hSw; (try dsimp only at hSw); go_simp <;> with_reducible rfl)
                    try simp only [Act.put, List.setIfInBounds_toArray, List.set_cons_zero, List.set_cons_succ]
                    refine wpAnyH_done (by kernel_rfl) ?_ _
                    have hzq := HZ2.out.trans (hS11.mono HZ2.out.size)
                    have hpq : Pq w11 w.heap.size v11 (xs.take n ++ [((xp, xk, xs'), a2, c2')] ++ xs.drop n) := by
                      have hall : ∀ y ∈ xs.take n ++ [((xp, xk, xs'), a2, c2')] ++ xs.drop n, y ∈ xs ∨ y = ((xp, xk, xs'), a2, c2') := fun y hy => by
                        rcases List.mem_append.1 hy with hy | hy
                        · rcases List.mem_append.1 hy with hy | hy
                          · exact .inl (List.mem_of_mem_take hy)
                          · exact .inr (by simpa using hy)
                        · exact .inl (List.mem_of_mem_drop hy)
                      refine ⟨row_lift6 hO11 hsz, fun y hy => ?_, fun y hy => ?_⟩
                      · rcases hall y hy with h | h
                        · exact (HQ.out.path y h).below hzq
                        · rw [h]; exact HO2.out.below hzq
                      · rcases hall y hy with h | h
                        · exact HQ.out.plen y h
                        · rw [h]; exact HN.out.2.2.2
                    obtain ⟨a11, c11, hv11⟩ := hpq.form
                    subst hv11
                    have H11 := And.intro (hide hpq) (hide (HBq.out.trans (hzq.mono HBq.out.size)))
                    clear hap1 hap2 hap3 r1 r2 hO9 b9 run9 hO10 run10 b10 hO11 run11 b11 hzq hpq hS10 hS11
                    go_wp2
                    go_roundw
                    case rel => exact ⟨j + 1, _, a11, c11, by omega, by go_num, rfl, HT, H11.1, H11.2⟩
                    case measure => simp [intOf]; omega
    · have he : xs.map (·.1) = insAllP [] (ps.map plOf) := by rw [HX.out, List.take_of_length_le (by rw [List.length_map]; omega)]
      have HE := hide he
      clear he
      go_wp2
      go_ret
      exact ⟨_, rfl, xs, HE.out, HO.out, HB.out⟩
end Go.Proofs.YtpepgoelnagoaaaGreatDoor
