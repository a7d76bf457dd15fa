/-
  A map[int]int that the call made, as a plain function; laws for its look-up and its store. Mine, by template (wip/gen.py).
-/
import Derived.Test.YtdlaekjofgbjcaaGreatDoorBaseZ
import Derived.Maps.Own
import Derived.Maps.OwnSet
import Derived.Maps.OwnOps
import Derived.Maps.Views
namespace Go.Proofs.YtdlaekjofgbjcaaGreatDoor
open Go.RowKit Go.Maps
theorem lawInt : Keyed Tryz.prog 3 := int_keyed Tryz.underlying3
theorem zeroInt (w : World) : (zeroValue 3).run Tryz.prog w = .ok (.int .i64 0) w := by kernel_rfl
def MapIs (w : World) (b n : Nat) (F : Int → Option Int) : Prop :=
  ∃ D : DataW Unit, w.ownsMap Tryz.prog 3 (plainElem Tryz.prog 3) b n D ∧ IsMap D ∧ ∀ s, Maps.has D (.int .i64 s) = (F s).isSome ∧ D.atKey (.int .i64 s) (.lit (.int .i64 0)) = .lit (.int .i64 ((F s).getD 0))
theorem MapIs.of_block {w w' : World} {b n : Nat} {F : Int → Option Int} (h : MapIs w b n F) (e : w'.heap[b]? = w.heap[b]?) : MapIs w' b n F := by
  obtain ⟨D, ⟨es, clock, h1, h2⟩, h3⟩ := h
  exact ⟨D, ⟨es, clock, e.trans h1, h2⟩, h3⟩
theorem MapIs.lt {w : World} {b n : Nat} {F : Int → Option Int} (h : MapIs w b n F) : b < w.heap.size := by
  obtain ⟨D, ⟨es, clock, h1, h2⟩, h3⟩ := h
  obtain ⟨hlt, _⟩ := Array.getElem?_eq_some_iff.1 h1
  exact hlt
theorem MapIs.below {w w' : World} {b n : Nat} {F : Int → Option Int} (h : MapIs w b n F) (hb : Below w.heap.size w w') : MapIs w' b n F := h.of_block (hb.block _ h.lt)
theorem MapIs.made (w : World) : MapIs (w.alloc (.map #[] 0)) w.heap.size 0 (fun _ => none) :=
  ⟨.map [], World.ownsMap_made _ _ _ _, isMap_empty, fun _ => ⟨rfl, rfl⟩⟩
theorem wpList_look {w : World} {ops : Array Oper} {rest : List Oper} {o : Oper} {a : Act} {Q : Exit → Act → World → Prop} (hg : o.guard = none) (m x : Operand) (hop : o.op = Op.lookup 69 m x true)
    (b n : Nat) (F : Int → Option Int) (hm : a.eval m = .map (some b)) (hmap : MapIs w b n F) (s : Int) (hx : a.eval x = .int .i64 s) (hwf : (Lit.int .i64 s).wf = true)
    (hK : wpList Tryz.prog ops Q rest (a.put o.dst (.tuple #[.int .i64 ((F s).getD 0), .bool (F s).isSome])) w) : wpList Tryz.prog ops Q (o :: rest) a w := by
  obtain ⟨D, hown, _, hF⟩ := hmap
  refine wpList_lookup_own_ok_int w hg m x 69 hop 3 3 .i64 lawInt Tryz.underlying69 Tryz.underlying3 (zeroInt _) b n D hm hown _ _ hx (keyOf_int_mk Tryz.underlying3 hwf) (fun c hc _ => ?_)
  have e1 := (hF s).2
  rw [hc] at e1
  have e2 : c = (F s).getD 0 := by injection e1 with e1; injection e1
  rw [e2, (hF s).1]
  exact hK
theorem wpList_store {w : World} {ops : Array Oper} {rest : List Oper} {o : Oper} {a : Act} {Q : Exit → Act → World → Prop} (hg : o.guard = none) (m x v : Operand) (hop : o.op = Op.mapUpdate 69 m x v)
    (b n : Nat) (F : Int → Option Int) (hm : a.eval m = .map (some b)) (hmap : MapIs w b n F) (hn : n < maxLen) (s u : Int) (hx : a.eval x = .int .i64 s) (hv : a.eval v = .int .i64 u) (hwf : (Lit.int .i64 s).wf = true) (hwu : (Lit.int .i64 u).wf = true)
    (hK : ∀ w', MapIs w' b (n + 1) (fun t => if t = s then some u else F t) → w.grownBy w' (some b) → wpList Tryz.prog ops Q rest (a.put o.dst undef) w') : wpList Tryz.prog ops Q (o :: rest) a w := by
  obtain ⟨D, hown, hD, hF⟩ := hmap
  refine wpList_mapUpdate_own w hg m x v 69 hop 3 3 lawInt Tryz.underlying69 _ b n D hm hown hn _ _ _ hx hv (keyOf_int_mk Tryz.underlying3 hwf) _ [] (plainElem_int Tryz.underlying3 hwu) (fun w' h1 h2 => hK w' ⟨_, h1, hD.put _ _, fun t => ?_⟩ h2)
  by_cases e : t = s
  · subst e
    simp only [if_true]
    exact ⟨has_put_same (k := .int .i64 t) hD trivial _, atKey_put_same (k := .int .i64 t) hD trivial _ _⟩
  · have ne : Lit.int .i64 t ≠ Lit.int .i64 s := fun h => e (by injection h)
    simp only [if_neg e]
    exact ⟨(has_put_other ne _).trans (hF t).1, (atKey_put_other ne _ _).trans (hF t).2⟩
end Go.Proofs.YtdlaekjofgbjcaaGreatDoor