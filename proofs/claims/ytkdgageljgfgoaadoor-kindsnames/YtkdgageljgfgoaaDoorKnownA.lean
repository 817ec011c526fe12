/-
  known: what its calls answer.
-/
import Derived.Test.YtkdgageljgfgoaaDoorRegs
namespace Go.Proofs.YtkdgageljgfgoaaDoor
open Go.RowKit Go.Shelf
set_option linter.unusedSimpArgs false
attribute [local go_sem] Oper.semAt_some

abbrev sx : ByteArray := ⟨#[120]⟩
abbrev sy : ByteArray := ⟨#[121]⟩
abbrev sk : ByteArray := ⟨#[107]⟩
abbrev e1K : El := (atS 1, sx)
abbrev e2K : El := (atS 2, sy)
set_option maxRecDepth 100000
theorem rpNil (W : World) : Rp W none 0 [] := ⟨⟨fun _ => rfl, by simp⟩, by simp, fun _ => rfl, by simp⟩
theorem ka1 {W : World} (hT : Tabs W) : Calls Tryd.prog 12 #[vv 2 0 none 0 0, svT (atS 1), opv none 0 0 2 ⟨#[107]⟩ 2 0 ⟨#[120]⟩] W (ValO W 2 0 [e1K]) := by
  have := apply_own (w := W) 2 0 (l := []) (atS 1) (p := []) 2 sk 2 0 sx (Rv.none W) (by simp) (rpNil W) hT (by omega) (by kernel_rfl) (by kernel_rfl) (by kernel_rfl) (by kernel_rfl) rfl
  rw [show wrap64 (0 + 0) = 0 by kernel_rfl] at this
  exact this
theorem kapp {W : World} {ao : Option Addr} {c : Nat} {l : List El} (k n : Int) (s : St) (ok : Int) (os : ByteArray) (d on : Int) (ot : ByteArray) {R : Int × Int × List El × Int} (h : Rv W ao c l) (hT : Tabs W) (hl : l.length ≤ 90000) (hR : applyV k n l s [] ok os d on ot = R) : Calls Tryd.prog 12 #[vv k n ao l.length c, svT s, opv none 0 0 ok os d on ot] W (ValE W R) := by
  have := apply_any (w := W) k n s (p := []) ok os d on ot h hl (rpNil W) hT
  rw [hR] at this
  exact this
theorem rka3 : applyV 2 0 [e1K] (atS 2) [] 2 sk 2 0 sy = (2, 0, [e1K, e2K], 0) := by kernel_rfl
theorem ka3 {W : World} {ao : Option Addr} {c : Nat} (h : Rv W ao c [e1K]) (hT : Tabs W) : Calls Tryd.prog 12 #[vv 2 0 ao 1 c, svT (atS 2), opv none 0 0 2 ⟨#[107]⟩ 2 0 ⟨#[121]⟩] W (ValE W (2, 0, [e1K, e2K], 0)) := by
  have := kapp 2 0 (atS 2) 2 sk 2 0 sy h hT (by simp) rka3
  exact this
theorem rka4 : applyV 2 0 [e1K, e2K] (atS 3) [] 2 sk 3 0 sx = (2, 0, [e2K], 0) := by kernel_rfl
theorem ka4 {W : World} {ao : Option Addr} {c : Nat} (h : Rv W ao c [e1K, e2K]) (hT : Tabs W) : Calls Tryd.prog 12 #[vv 2 0 ao 2 c, svT (atS 3), opv none 0 0 2 ⟨#[107]⟩ 3 0 ⟨#[120]⟩] W (ValE W (2, 0, [e2K], 0)) := by
  have := kapp 2 0 (atS 3) 2 sk 3 0 sx h hT (by simp) rka4
  exact this
theorem rka8 : applyV 2 0 [e1K, e2K] (atS 2) [] 2 sk 2 0 ⟨#[]⟩ = (0, 0, [], 2) := by kernel_rfl
theorem ka8 {W : World} {ao : Option Addr} {c : Nat} (h : Rv W ao c [e1K, e2K]) (hT : Tabs W) : Calls Tryd.prog 12 #[vv 2 0 ao 2 c, svT (atS 2), opv none 0 0 2 ⟨#[107]⟩ 2 0 ⟨#[]⟩] W (ValE W (0, 0, [], 2)) := by
  have := kapp 2 0 (atS 2) 2 sk 2 0 ⟨#[]⟩ h hT (by simp) rka8
  exact this
theorem rka9 : applyV 2 0 [e1K, e1K] (atS 3) [] 2 sk 2 0 ⟨#[]⟩ = (0, 0, [], 2) := by kernel_rfl
theorem ka9 {W : World} {ao : Option Addr} {c : Nat} (h : Rv W ao c [e1K, e1K]) (hT : Tabs W) : Calls Tryd.prog 12 #[vv 2 0 ao 2 c, svT (atS 3), opv none 0 0 2 ⟨#[107]⟩ 2 0 ⟨#[]⟩] W (ValE W (0, 0, [], 2)) := by
  have := kapp 2 0 (atS 3) 2 sk 2 0 ⟨#[]⟩ h hT (by simp) rka9
  exact this
theorem rka10 : applyV 2 0 [e1K, e2K] (atS 3) [] 4 sk 6 0 sx = (0, 0, [], 2) := by kernel_rfl
theorem ka10 {W : World} {ao : Option Addr} {c : Nat} (h : Rv W ao c [e1K, e2K]) (hT : Tabs W) : Calls Tryd.prog 12 #[vv 2 0 ao 2 c, svT (atS 3), opv none 0 0 4 ⟨#[107]⟩ 6 0 ⟨#[120]⟩] W (ValE W (0, 0, [], 2)) := by
  have := kapp 2 0 (atS 3) 4 sk 6 0 sx h hT (by simp) rka10
  exact this
theorem k33 {W : World} {o1 o2 o3 : Option Addr} {c1 c2 c3 : Nat} (h1 : Rv W o1 c1 [e1K]) (h2 : Rv W o2 c2 [e2K]) (h3 : Rv W o3 c3 [e1K, e2K]) : Calls Tryd.prog 14 #[vv 2 0 o1 1 c1, vv 2 0 o2 1 c2, vv 2 0 o3 2 c3] W (ValE W (2, 0, [e2K], 0)) := by
  have := three_any 2 0 2 0 2 0 h1 h2 h3 (by simp) (by simp) (by simp)
  rw [show threeV 2 0 [e1K] 2 0 [e2K] 2 0 [e1K, e2K] = (2, 0, [e2K], 0) by kernel_rfl] at this
  exact this
theorem k24 {W : World} {o : Option Addr} {c : Nat} (h : Rv W o c [e1K, e2K]) : Calls Tryd.prog 15 #[vv 2 0 o 2 c] W (TxtE W (0, [sx, sy], 0)) := by
  have := show_any 2 0 h (by simp)
  rw [show showV 2 0 [e1K, e2K] = (0, [sx, sy], 0) by kernel_rfl] at this
  exact this
theorem k35 (W : World) : Calls Tryd.prog 6 #[.int .i64 2] W fun e w' => e = .returned (.tuple #[vv 2 0 none 0 0, .int .i64 0]) ∧ Below W.heap.size W w' := empty_any 2 W
theorem k10 (W : World) : Calls Tryd.prog 16 #[.string ⟨#[113, 117, 101, 117, 101]⟩] W fun e w' => e = .returned (.tuple #[.int .i64 4, .bool true]) ∧ Below W.heap.size W w' := by
  have := OfWordK ⟨#[113, 117, 101, 117, 101]⟩ W
  rw [show ofWB kindWs ⟨#[113, 117, 101, 117, 101]⟩ = (4, true) by kernel_rfl] at this
  exact this
theorem k17 (W : World) : Calls Tryd.prog 19 #[.int .i64 2] W fun e w' => e = .returned (.string ⟨#[115, 101, 116]⟩) ∧ Below W.heap.size W w' := by
  have := WordK 2 W
  rw [show wordB kindWs 2 = ⟨#[115, 101, 116]⟩ by kernel_rfl] at this
  exact this
theorem k18 (W : World) : Calls Tryd.prog 20 #[.int .i64 6] W fun e w' => e = .returned (.string ⟨#[112, 111, 112]⟩) ∧ Below W.heap.size W w' := by
  have := WordD 6 W
  rw [show wordB doWs 6 = ⟨#[112, 111, 112]⟩ by kernel_rfl] at this
  exact this
theorem k13 {W : World} (hT : Tabs W) : Calls Tryd.prog 21 #[opv none 0 0 2 ⟨#[107]⟩ 1 0 ⟨#[]⟩] W fun e w' => e = .returned (.int .i64 7) ∧ Below W.heap.size W w' := by
  have := check_any 2 sk 1 0 ⟨#[]⟩ (rpNil W) hT
  rw [show checkE [] 2 sk 1 0 ⟨#[]⟩ = 7 by kernel_rfl] at this
  exact this
theorem k29 {W : World} {o1 o2 : Option Addr} {c1 c2 : Nat} (h1 : Rv W o1 c1 [e2K]) (h2 : Rv W o2 c2 [e2K]) : Calls Tryd.prog 17 #[vv 2 0 o1 1 c1, vv 2 0 o2 1 c2] W fun e w' => e = .returned (.bool true) ∧ Below W.heap.size W w' := by
  have := refSame_any 2 0 2 0 (c := c1) (d := c2) h1.re h2.re (by simp) (by simp)
  rw [show sameV 2 0 [e2K] 2 0 [e2K] = true by kernel_rfl] at this
  exact this
theorem k31 {W : World} {o1 : Option Addr} {c1 g : Nat} (h1 : Rp W o1 c1 [sx, sy]) (hg : W.heap[g]? = some (.cells #[.string sx, .string sy] 9 (0, 0))) : Calls Tryd.prog 18 #[.slice o1 2 c1, .slice (some ⟨g, 0, none⟩) 2 2] W fun e w' => e = .returned (.bool true) ∧ Below W.heap.size W w' := by
  have h2 : Rs W (some ⟨g, 0, none⟩) [sx, sy] := ⟨by simp, fun a ha j s hj => by
    cases ha
    rw [add_lit, Nat.zero_add, cell_of_row _ _ j _ 9 (0, 0) hg]
    match j, hj with
    | 0, hj => cases hj; rfl
    | 1, hj => cases hj; rfl⟩
  have := sameTexts_any (c := c1) (d := 2) h1.rs h2 (by simp) (by simp)
  rw [show decide ([sx, sy] = [sx, sy]) = true by simp] at this
  refine this.mono ?_
  rintro e w' ⟨he, q, rfl⟩
  exact ⟨he, below_drw (Below.refl _ _) q⟩
/-- Elements laid behind owned ones. -/
theorem wpList_appE {w : World} {ops : Array Oper} {rest : List Oper} {o : Oper} {a : Act} {Q : Exit → Act → World → Prop} (hgd : o.guard = none) (s x : Operand)
    (ho : o.op = .call { callee := .builtin .append, args := #[s, x], argTypes := #[28, 28] })
    (B : Nat) (v : Value) (p : List El) (hs : a.eval s = v) (hown : Oe w B v p)
    (ad : Addr) (c m : Nat) (l : List El) (hm : m = l.length) (hx : a.eval x = .slice (some ad) m c) (hrd : Re w (some ad) l)
    (hbytes : p.length + l.length ≤ 1000000) (hbase : B ≤ w.heap.size)
    (h : ∀ ao' cap' w', Hid (Oe w' B (.slice ao' (p.length + l.length) cap') (p ++ l) ∧ w.grownBy w' v.ownBlock) →
      wpList Tryd.prog ops Q rest (a.put o.dst (.slice ao' (p.length + l.length) cap')) w') : wpList Tryd.prog ops Q (o :: rest) a w := by
  subst hm
  obtain ⟨i0, hi, hz0, hz1, hz2⟩ := info_of info77
  refine wpList_append_own w hgd s x 28 ho B 58 i0 zeroE 6 64 Tryd.underlying28 hi hz0 hz1 hz2 rfl (by decide) v _ _ hs hown ad l.length c (flatE l) hx (flatE_len l) (fun j u hj => hrd.2 ad rfl j u hj) (flatE_one l) (by unfold maxLen; omega) (by omega) hbase ?_
  intro v' w' hown' hg _
  have hO : Oe w' B v' (p ++ l) := by
    unfold Oe
    rw [flatE_app, List.length_append]
    exact hown'
  obtain ⟨ao', cap', rfl, _, hn, _⟩ := hO.form
  rw [List.length_append] at hO ⊢
  exact h ao' cap' w' (hide ⟨hO, hg⟩)
theorem Nt.below {w w' : World} {B0 : Nat} {ao : Option Addr} {c : Nat} {l : List ByteArray} (h : Nt w B0 ao c l) (hb : Below w.heap.size w w') : Nt w' B0 ao c l := ⟨h.rp.below hb, h.new⟩
theorem Nt.only {w w' : World} {B B0 : Nat} {ao : Option Addr} {c : Nat} {l : List ByteArray} (h : Nt w B0 ao c l) (ho : Only (fun j => j = B) w w') (hB : B < B0) : Nt w' B0 ao c l := by
  refine ⟨⟨⟨h.rp.rs.1, fun a ha j s hj => ?_⟩, h.rp.cap, h.rp.nil, h.rp.len⟩, h.new⟩
  have hbl : (a.add j).block = a.block := by unfold Addr.add; split <;> rfl
  refine ho.cell (h.rp.rs.2 a ha j s hj) ?_
  have := h.new a ha
  rw [hbl]; omega
end Go.Proofs.YtkdgageljgfgoaaDoor
